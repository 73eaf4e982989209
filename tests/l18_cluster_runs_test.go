package tests

import (
	"fmt"
	"math"
	"runtime"
	"slices"
	"strings"
	"sync"
	"testing"

	"loop.example/g00103/impl"
)

// drawnCluster is where a life begins: how many nodes there are, and their conf.
func drawnCluster(d *drawing) (int, []int) {
	nodes := []int{1, 2, 3, 3, 3, 4, 4}[d.below(7)]
	conf := upTo(1, nodes)
	if d.below(3) == 0 {
		conf = drawnSet(d, nodes, 1, nodes+1)
	}
	if len(conf) == 0 {
		conf = numbers(1 + d.below(nodes))
	}
	return nodes, conf
}

// nodesWith are those that are up, or down, and of which this is so.
func nodesWith(w impl.World, up bool, is func(n impl.Node) bool) []int {
	var list []int
	for at, s := range w.Servers {
		if w.Up[at] == up && is(s.Node) {
			list = append(list, at+1)
		}
	}
	return list
}

func leading(n impl.Node) bool { return n.Role == impl.RoleLead }

func anyNode(impl.Node) bool { return true }

func oneOf(d *drawing, list []int) int { return list[d.below(len(list))] }

// drawnEvent is near to what the world is about; it is right.
func drawnEvent(d *drawing, w impl.World) impl.Event {
	r := d.below(100)
	if len(w.Net) > 0 && r < 52 {
		switch {
		case r < 3:
			return dropEvent(d.below(9))
		case r < 7:
			return copyEvent(d.below(9))
		}
		return drawnDelivery(d)
	}
	if down := nodesWith(w, false, anyNode); len(down) > 0 && d.below(3) == 0 {
		return upEvent(oneOf(d, down), 1+d.below(2))
	}
	some := 1 + d.below(len(w.Servers))
	leaders := nodesWith(w, true, leading)
	if len(leaders) == 0 || d.below(12) == 0 {
		return []impl.Event{tickEvent(some, 1+d.below(3)), tickEvent(some, 1+d.below(3)), tickEvent(some, 1+d.below(3)), downEvent(some), drawnCall(d, w, some), mergeEvent(some), dropEvent(0), upEvent(some, 1)}[d.below(8)]
	}
	lead := oneOf(d, leaders)
	switch r = d.below(20); {
	case r < 10:
		return drawnCall(d, w, lead)
	case r < 13:
		return tickEvent(lead, 1+d.below(4))
	case r < 16:
		return drawnConfEvent(d, w, lead)
	case r < 18:
		return mergeEvent(lead)
	}
	return downEvent([]int{some, lead}[d.below(2)])
}

func drawnDelivery(d *drawing) impl.Event {
	at := 0
	switch d.below(8) {
	case 0, 1:
		at = d.below(12)
	case 2:
		at = []int{60, 1 << 40, math.MaxInt}[d.below(3)]
	}
	return deliverEvent(at)
}

// drawnCall is mostly of a session that the node knows.
func drawnCall(d *drawing, w impl.World, node int) impl.Event {
	s := w.Servers[node-1]
	state, _ := plainShelfMap(s.Disk, s.Shelf)
	return callEvent(node, drawnAsk(d, state))
}

// drawnConfEvent has mostly one node more or less than the conf that holds.
func drawnConfEvent(d *drawing, w impl.World, node int) impl.Event {
	conf := plainConfNow(w.Servers[node-1].Node)
	id := 1 + d.below(len(w.Servers))
	now := without(conf, id)
	if len(now) == len(conf) {
		now = append(now, id)
	}
	slices.Sort(now)
	if !confWithinNodes(len(w.Servers), now) {
		now = conf
	}
	return confEvent(node, now...)
}

// oddly gives an event fields that its Kind does not ask for, or has the power go
// amid it.
func oddly(d *drawing, e impl.Event, w impl.World) impl.Event {
	if e.Kind != 1 && e.Kind != 9 && d.below(8) == 0 {
		e.Limit = d.below(40) - 10
	}
	if e.Kind != 5 && d.below(8) == 0 {
		e.Command = impl.Command{Op: d.below(9), Key: d.bytes(12)}
	}
	if e.Kind != 6 && d.below(8) == 0 {
		e.Conf = numbers(d.below(9), d.below(9))
	}
	if e.Kind >= 2 && e.Kind <= 4 {
		e.Node = 1 + d.below(len(w.Servers))
	}
	if d.below(18) == 0 {
		e.Cut, e.Whole, e.Part = true, d.below(12)-1, d.below([]int{1, 20, 80}[d.below(3)])-1
		if d.below(10) == 0 {
			e.Whole = farNumbers()[d.below(len(farNumbers()))]
		}
	}
	return e
}

// contested is an event of a life in which many would lead.
func contested(d *drawing, w impl.World) impl.Event {
	some := 1 + d.below(len(w.Servers))
	switch r := d.below(20); {
	case len(w.Net) > 0 && r < 12:
		return deliverEvent(d.below(1 + d.below(6)))
	case r < 15:
		return tickEvent(some, 1+d.below(2))
	case r < 16:
		return downEvent(some)
	case r < 17:
		return copyEvent(d.below(6))
	case r < 18:
		return callEvent(some, openNew())
	}
	return upEvent(some, 1)
}

// cameUpSoon has some nodes, or all, come up anew with a small Limit: no life is
// long enough to wait for those that they begin with.
func cameUpSoon(d *drawing, p *plainCluster) {
	first, by := 1+d.below(4), 1+d.below(4)
	if d.below(2) == 0 {
		first, by = 1, 1
	}
	for node := first; node <= len(p.world.Servers); node += by {
		p.happen(downEvent(node))
		p.happen(upEvent(node, 1+d.below(2)))
	}
}

// drawnLife goes on until there are so many events.
func drawnLife(d *drawing, p *plainCluster, draw func(d *drawing, w impl.World) impl.Event, count int, seen map[string]int) {
	for len(p.events) < count {
		e := oddly(d, draw(d, p.world), p.world)
		comes := 0
		if net := p.world.Net; e.Kind == 2 && len(net) > 0 {
			comes = net[e.At%len(net)].Kind
		}
		number := p.happen(e)
		seen[fmt.Sprint("kind ", e.Kind, " number ", number)]++
		seen[fmt.Sprint("message ", comes, " number ", number)]++
	}
}

func lookedAt(w impl.World, seen map[string]int) {
	seen["leaders"] += len(w.Leaders)
	seen["applied"] += len(w.Applied)
	seen["replies"] += len(w.Replies)
	seen["waits"] += len(w.Waits)
	led := map[int]bool{}
	for _, l := range w.Leaders {
		led[l.Node] = true
	}
	seen[fmt.Sprint("led by ", len(led))]++
	for _, s := range w.Servers {
		if s.Shelf.Man.Base > 0 {
			seen["merged or installed"]++
		}
		if len(plainConfNow(s.Node)) != len(w.Servers[0].Node.Conf) {
			seen["another conf"]++
		}
	}
}

// wantOneLeader is P18; and each leader begins with an entry of its own Term.
func wantOneLeader(t *testing.T, why string, w impl.World) {
	t.Helper()
	leaders := map[int]int{}
	for _, l := range w.Leaders {
		if other, led := leaders[l.Term]; led && other != l.Node {
			t.Errorf("%s: the Term %d has the leaders %d and %d", why, l.Term, other, l.Node)
		}
		leaders[l.Term] = l.Node
		if last := len(l.Log.Entries) - 1; last < 0 || l.Log.Entries[last] != noneOf(l.Term) {
			t.Errorf("%s: the leader %d of %d has no entry of its Term: %s", why, l.Node, l.Term, shortLog(l.Log))
		}
	}
}

// wantUpRight is P22; and who is down can come up.
func wantUpRight(t *testing.T, why string, w impl.World) {
	t.Helper()
	if len(w.Up) != len(w.Servers) {
		t.Errorf("%s: %s", why, shortWorld(w))
		return
	}
	for at, s := range w.Servers {
		if w.Up[at] {
			wantServer(t, why, s, true)
			continue
		}
		up, _, code := impl.Boot(at+1, s.Disk, 3)
		if code != 0 || !impl.ServerOk(up) {
			t.Errorf("%s: %d does not come up: code %d, %s", why, at+1, code, shortServer(up))
		}
	}
}

// wantOneEntry asks that no index has two entries, that each shelf has the map
// that these make, and that what was replied is what they make, too.
func wantOneEntry(t *testing.T, why string, w impl.World) {
	t.Helper()
	entries := map[int]impl.Entry{}
	for _, a := range w.Applied {
		if e, was := entries[a.Index]; was && e != a.Entry {
			t.Errorf("%s: the index %d is %v and %v", why, a.Index, e, a.Entry)
		}
		if a.Entry.Term > a.Term {
			t.Errorf("%s: %v is applied in the Term %d", why, a.Entry, a.Term)
		}
		entries[a.Index] = a.Entry
	}
	states, texts := []([]impl.Pair){nil}, []string{""}
	for index := 1; index <= len(entries); index++ {
		e, is := entries[index]
		if !is {
			t.Errorf("%s: the index %d was never applied: %s", why, index, shortWorld(w))
			return
		}
		state, text := plainState(states[index-1], index, e)
		states, texts = append(states, state), append(texts, text)
	}
	for at, s := range w.Servers {
		shelf, _, code := impl.OpenShelf(s.Disk)
		if shelf.Stamp >= len(states) {
			t.Errorf("%s: the disk of %d has the Stamp %d, of %d that are applied", why, at+1, shelf.Stamp, len(entries))
			return
		}
		if m, ok := impl.ShelfMap(s.Disk, shelf); code != 0 || !ok || !slices.Equal(m, states[shelf.Stamp]) {
			t.Errorf("%s: the map of %d at %d is %v; want %v", why, at+1, shelf.Stamp, m, states[shelf.Stamp])
		}
	}
	for _, r := range w.Replies {
		if r.Text != texts[r.Index] || entries[r.Index] != commandEntry(entries[r.Index].Term, r.Command) {
			t.Errorf("%s: %v is replied %q; want %q", why, r.Command, r.Text, texts[r.Index])
		}
	}
}

// wantCallsOnce asks that each call is replied or waits once at most, and that
// only who is up waits.
func wantCallsOnce(t *testing.T, why string, w impl.World, events []impl.Event) {
	t.Helper()
	seen := map[int]bool{}
	call := func(at int) impl.Event {
		if seen[at] || at < 0 || at >= len(events) || events[at].Kind != 5 {
			t.Errorf("%s: the call %d is none: %s", why, at, shortWorld(w))
			return impl.Event{}
		}
		seen[at] = true
		return events[at]
	}
	for _, x := range w.Waits {
		if e := call(x.Call); e.Node != x.Node || !w.Up[x.Node-1] {
			t.Errorf("%s: %v waits", why, x)
		}
	}
	for _, r := range w.Replies {
		if e := call(r.Call); e.Command != r.Command {
			t.Errorf("%s: %v is replied to %v", why, r.Command, e.Command)
		}
	}
}

func wantPromises(t *testing.T, why string, got ran, events []impl.Event) {
	t.Helper()
	wantOneLeader(t, why, got.world)
	wantUpRight(t, why, got.world)
	wantOneEntry(t, why, got.world)
	wantCallsOnce(t, why, got.world, events)
}

// wantLife holds a life against the plain one's, and the promises.
func wantLife(t *testing.T, why string, nodes int, conf []int, p *plainCluster) {
	t.Helper()
	got := ranOf(nodes, conf, p.events...)
	if want := p.ran(); !sameRan(got, want) {
		t.Errorf("%s: RunCluster(%d, %v, %+v) =\n%s\nwant %s", why, nodes, conf, p.events, shortRan(got), shortRan(want))
		return
	}
	wantPromises(t, why, got, p.events)
}

// livesOf has so many drawn lives, some at once.
func livesOf(t *testing.T, count int, life func(t *testing.T, seed int, seen map[string]int)) map[string]int {
	var lock sync.Mutex
	all := map[string]int{}
	var at sync.WaitGroup
	for worker := range 8 {
		at.Go(func() {
			seen := map[string]int{}
			for seed := worker; seed < count; seed += 8 {
				life(t, seed, seen)
			}
			lock.Lock()
			defer lock.Unlock()
			for what, n := range seen {
				all[what] += n
			}
		})
	}
	at.Wait()
	return all
}

func wantSeen(t *testing.T, seen map[string]int, least map[string]int) {
	t.Helper()
	for what, n := range least {
		if seen[what] < n {
			t.Errorf("%s: %d times; want %d at least", what, seen[what], n)
		}
	}
}

// Lives by the servers' own functions: many of them.
func TestDrawnLivesOfClusters(t *testing.T) {
	seen := livesOf(t, 3000, func(t *testing.T, seed int, seen map[string]int) {
		d := &drawing{state: uint32(1800 + 7*seed)}
		nodes, conf := drawnCluster(d)
		p := newSwiftCluster(nodes, conf)
		draw := drawnEvent
		if seed%4 == 0 {
			draw = contested
		}
		cameUpSoon(d, p)
		for _, count := range numbers(20, 40, 60) {
			drawnLife(d, p, draw, count, seen)
			wantLife(t, fmt.Sprint("life ", seed), nodes, conf, p)
		}
		lookedAt(p.world, seen)
	})
	wantSeen(t, seen, map[string]int{
		"kind 1 number 0": 9000, "kind 1 number 1": 900, "kind 1 number 3": 900, "kind 2 number 0": 9000, "kind 2 number 1": 900, "kind 2 number 3": 600,
		"kind 3 number 0": 900, "kind 3 number 1": 900, "kind 4 number 0": 900, "kind 4 number 1": 300, "kind 5 number 0": 3000, "kind 5 number 1": 300, "kind 5 number 2": 900, "kind 5 number 3": 150,
		"kind 6 number 0": 200, "kind 6 number 2": 300, "kind 6 number 3": 8, "kind 7 number 0": 900, "kind 7 number 1": 300, "kind 7 number 3": 150,
		"kind 8 number 0": 900, "kind 8 number 1": 300, "kind 9 number 0": 900, "kind 9 number 1": 900,
		"message 1 number 0": 900, "message 2 number 0": 900, "message 3 number 0": 900, "message 4 number 0": 900, "message 5 number 0": 60, "message 6 number 0": 30,
		"message 1 number 3": 90, "message 2 number 3": 90, "message 3 number 3": 90, "message 4 number 3": 90, "message 5 number 3": 3,
		"leaders": 2000, "led by 1": 900, "led by 2": 150, "led by 3": 3, "applied": 5000, "replies": 2000, "waits": 600, "merged or installed": 500, "another conf": 100,
	})
}

// Lives by the plain rules of servers, too; each is looked at behind each event.
func TestPlainLivesOfClusters(t *testing.T) {
	seen := livesOf(t, 64, func(t *testing.T, seed int, seen map[string]int) {
		d := &drawing{state: uint32(9000 + 11*seed)}
		nodes, conf := drawnCluster(d)
		p := newPlainCluster(nodes, conf)
		cameUpSoon(d, p)
		for len(p.events) < 60 {
			drawnLife(d, p, drawnEvent, len(p.events)+1, seen)
			wantLife(t, fmt.Sprint("life ", seed), nodes, conf, p)
		}
		lookedAt(p.world, seen)
	})
	wantSeen(t, seen, map[string]int{"leaders": 40, "applied": 100, "replies": 50, "kind 1 number 3": 10, "kind 2 number 3": 10})
}

func overwriteWaits(list []impl.Wait) {
	for at := range list[:cap(list)] {
		list[:cap(list)][at] = impl.Wait{Node: -7, Index: -7}
	}
}

func overwriteApplied(list []impl.Applied) {
	for at := range list[:cap(list)] {
		list[:cap(list)][at] = impl.Applied{Node: -7, Entry: noneOf(-7)}
	}
}

func overwriteReplies(list []impl.Reply) {
	for at := range list[:cap(list)] {
		list[:cap(list)][at] = impl.Reply{Call: -7, Text: "turned"}
	}
}

func overwriteUp(list []bool) {
	for at := range list[:cap(list)] {
		list[:cap(list)][at] = !list[:cap(list)][at]
	}
}

// listsOfRan are all lists of an answer; of those whose things have lists, the
// things are told without them.
func listsOfRan(r ran) []listPart {
	w := r.world
	parts := []listPart{
		{func() string { return fmt.Sprint(r.numbers) }, func() { overwrite(r.numbers) }},
		{func() string { return fmt.Sprint(w.Up) }, func() { overwriteUp(w.Up) }},
		{func() string { return fmt.Sprint(w.Waits) }, func() { overwriteWaits(w.Waits) }},
		{func() string { return fmt.Sprint(w.Applied) }, func() { overwriteApplied(w.Applied) }},
		{func() string { return fmt.Sprint(w.Replies) }, func() { overwriteReplies(w.Replies) }},
	}
	for _, s := range w.Servers {
		parts = append(parts, listsOfServed(served{server: s})...)
	}
	parts = append(parts, listsOfOutcome(outcome{told: w.Net})...)
	for _, l := range w.Leaders {
		entries := l.Log.Entries
		parts = append(parts, listPart{func() string { return fmt.Sprint(entries) }, func() { overwriteEntries(entries) }})
	}
	return append(parts,
		listPart{func() string { return fmt.Sprint(len(w.Servers), w.Servers[0].Node.Id) }, func() { clear(w.Servers[:cap(w.Servers)]) }},
		listPart{func() string { return headsOf(w.Net) }, func() { clear(w.Net[:cap(w.Net)]) }},
		listPart{func() string { return termsOf(w.Leaders) }, func() { clear(w.Leaders[:cap(w.Leaders)]) }})
}

func headsOf(net []impl.Message) string {
	text := ""
	for _, m := range net {
		text += fmt.Sprint(m.Kind, m.From, m.To, m.Term, m.Index, m.Data)
	}
	return text
}

func termsOf(list []impl.Leader) string {
	text := ""
	for _, l := range list {
		text += fmt.Sprint(l.Node, l.Term, l.Log.Start)
	}
	return text
}

func wantRanApart(t *testing.T, why string, r ran) {
	t.Helper()
	wantPartsApart(t, why, listsOfRan(r))
}

// richLife is a drawn life with leaders, replies and messages on the way.
func richLife(d *drawing) (int, []int, []impl.Event) {
	for {
		nodes, conf := drawnCluster(d)
		p := newSwiftCluster(nodes, conf)
		cameUpSoon(d, p)
		drawnLife(d, p, drawnEvent, 40+d.below(21), map[string]int{})
		w := p.world
		if len(w.Leaders) > 0 && (len(w.Net) > 0 || nodes < 3) && len(w.Replies) > 1 {
			return nodes, conf, p.events
		}
	}
}

// eventsWithRoom have other things in the room behind each list.
func eventsWithRoom(events []impl.Event) []impl.Event {
	room := append(make([]impl.Event, 0, len(events)+9), events...)
	for at, e := range room {
		room[at].Conf = append(append(make([]int, 0, len(e.Conf)+9), e.Conf...), 77, 88)[:len(e.Conf)]
	}
	return append(room, impl.Event{Kind: 77}, impl.Event{Kind: 88})[:len(events)]
}

func roomOfEvents(conf []int, events []impl.Event) string {
	text := fmt.Sprint(conf[:cap(conf)], events[:cap(events)])
	for _, e := range events {
		text += fmt.Sprint(e.Conf[:cap(e.Conf)])
	}
	return text
}

func TestArgumentsOfClustersStay(t *testing.T) {
	d := &drawing{state: 183}
	for range 60 {
		nodes, list, events := richLife(d)
		conf := append(append(make([]int, 0, len(list)+9), list...), 77, 88)[:len(list)]
		events = eventsWithRoom(events)
		was := roomOfEvents(conf, events)
		got := ranOf(nodes, conf, events...)
		begun, _ := impl.WorldNew(nodes, conf)
		for _, e := range events {
			impl.EventOk(nodes, e)
		}
		wrong := append(slices.Clone(events[:9]), impl.Event{})
		impl.RunCluster(nodes, conf, wrong)
		for round := range 2 {
			if roomOfEvents(conf, events) != was {
				t.Fatalf("round %d: an argument is another now: %s; was %s", round, roomOfEvents(conf, events), was)
			}
			wantRanApart(t, "RunCluster", got)
			wantRanApart(t, "WorldNew", ran{world: begun})
		}
	}
}

func TestTwoAnswersOfClustersShareNothing(t *testing.T) {
	d := &drawing{state: 184}
	for range 40 {
		nodes, conf, events := richLife(d)
		for why, ask := range map[string]func() ran{
			"RunCluster": func() ran { return ranOf(nodes, conf, events...) },
			"WorldNew": func() ran {
				w, ok := impl.WorldNew(nodes, conf)
				return ran{world: w, ok: ok}
			},
		} {
			first, second := ask(), ask()
			was := shortRan(second) + fmt.Sprint(second)
			for _, part := range listsOfRan(first) {
				part.write()
			}
			if shortRan(second)+fmt.Sprint(second) != was {
				t.Errorf("%s: two answers share memory", why)
			}
		}
	}
}

// textsOfRan are the texts of each list.
func textsOfRan(r ran) [][]string {
	w := r.world
	var all [][]string
	for _, s := range w.Servers {
		all = append(all, textsOfServer(s)...)
	}
	for _, m := range w.Net {
		all = append(all, dataOf(impl.Log{Entries: m.Entries}), []string{m.Data})
	}
	for _, l := range w.Leaders {
		all = append(all, dataOf(l.Log))
	}
	var applied, replied []string
	for _, a := range w.Applied {
		applied = append(applied, a.Entry.Data)
	}
	for _, r := range w.Replies {
		replied = append(replied, r.Command.Key, r.Command.Value, r.Command.Old, r.Text)
	}
	return append(all, applied, replied)
}

// newEvents have new memory for each of their texts; these are answered too.
func newEvents(events []impl.Event) ([]impl.Event, []string) {
	events = slices.Clone(events)
	var words []string
	for at := range events {
		c := &events[at].Command
		c.Key, c.Value, c.Old = strings.Clone(c.Key), strings.Clone(c.Value), strings.Clone(c.Old)
		words = append(words, c.Key, c.Value, c.Old)
	}
	return events, words
}

func TestTextsOfClustersAreNewMemory(t *testing.T) {
	d := &drawing{state: 185}
	constant := []string{"put", "cut", "none", "kept", "swapped", "expired", "stale", "gap"}
	for range 60 {
		nodes, conf, events := richLife(d)
		events, words := newEvents(events)
		all := textsOfRan(ranOf(nodes, conf, events...))
		for at, texts := range all {
			texts = slices.DeleteFunc(slices.Clone(texts), func(w string) bool { return slices.Contains(constant, w) })
			wantOwn(t, "RunCluster", texts, words)
			for _, others := range all[at+1:] {
				wantOwn(t, "RunCluster, another list", texts, others)
			}
		}
	}
}

// Messages that are copied on the way have entries, a conf and data of their own.
func TestCopiesOnTheWayShareNothing(t *testing.T) {
	soon := []impl.Event{downEvent(1), upEvent(1, 1), tickEvent(1, 9)}
	shipped := append(slices.Clone(soon), callEvent(1, openNew()), callEvent(1, putOf(1, 1, "a", "x")), mergeEvent(1), confEvent(1, 1, 2), deliverEvent(0), deliverEvent(0), copyEvent(0), copyEvent(1))
	asked := append(slices.Clone(soon), deliverEvent(0), deliverEvent(0), callEvent(1, openNew()), callEvent(1, openNew()), copyEvent(1), copyEvent(2), copyEvent(0))
	for kind, events := range map[int][]impl.Event{impl.AskInstall: shipped, impl.AskAppend: asked} {
		conf := numbers(1)
		if kind == impl.AskAppend {
			conf = numbers(1, 2)
		}
		got := ranOf(2, conf, events...)
		if net := got.world.Net; len(net) < 3 || net[0].Kind != kind || net[len(net)-1].Kind != kind || len(net[0].Entries)+len(net[0].Conf) == 0 {
			t.Fatalf("on the way are %s", shortWorld(got.world))
		}
		all := textsOfRan(got)
		for at, texts := range all {
			for _, others := range all[at+1:] {
				wantOwn(t, "a copy", texts, others)
			}
		}
		wantRanApart(t, "a copy", got)
	}
}

// Of the fields of an event those alone are looked at that its Kind names.
func TestFieldsThatAKindDoesNotAskFor(t *testing.T) {
	d := &drawing{state: 186}
	for range 60 {
		nodes, conf, events := richLife(d)
		want := ranOf(nodes, conf, events...)
		for at := range events {
			e := &events[at]
			if e.Kind != 1 && e.Kind != 9 {
				e.Limit = d.below(50) - 10
			}
			if e.Kind != 5 {
				e.Command = impl.Command{Op: d.below(9) - 1, Session: -1, Key: letters(30)}
			}
			if e.Kind != 6 {
				e.Conf = numbers(9, 9, 9)
			}
			if e.Kind < 2 || e.Kind > 4 {
				e.At = d.below(100)
			} else {
				e.Node = 1 + d.below(nodes)
			}
			if !e.Cut {
				e.Whole, e.Part = d.below(9)-4, d.below(9)-4
			}
			if e.Kind == 3 || e.Kind == 4 || e.Kind == 8 || e.Kind == 9 {
				e.Cut = !e.Cut
			}
		}
		if got := ranOf(nodes, conf, events...); !sameRan(got, want) {
			t.Errorf("of other fields comes %s; want %s", shortRan(got), shortRan(want))
		}
	}
}

func TestManyClustersAtOnce(t *testing.T) {
	d := &drawing{state: 187}
	type life struct {
		nodes  int
		conf   []int
		events []impl.Event
		want   ran
	}
	var lives []life
	for range 12 {
		nodes, conf, events := richLife(d)
		lives = append(lives, life{nodes, conf, events, ranOf(nodes, conf, events...)})
		lives = append(lives, life{nodes, conf, append(slices.Clone(events[:20]), impl.Event{}), ran{}})
	}
	before := runtime.NumGoroutine()
	var all sync.WaitGroup
	for range 8 {
		all.Go(func() {
			for _, l := range lives {
				if got := ranOf(l.nodes, l.conf, l.events...); !sameRan(got, l.want) {
					t.Errorf("at once comes %s; want %s", shortRan(got), shortRan(l.want))
				}
			}
		})
	}
	all.Wait()
	for range 1000 {
		if runtime.NumGoroutine() <= before {
			return
		}
		runtime.Gosched()
	}
	t.Errorf("of %d goroutines there are %d now", before, runtime.NumGoroutine())
}

// Nothing is kept from one call to another.
func TestRunClusterKeepsNothing(t *testing.T) {
	d := &drawing{state: 188}
	for range 30 {
		nodes, conf, events := richLife(d)
		first := ranOf(nodes, conf, events...)
		ranOf(nodes, conf, append(slices.Clone(events[:30]), impl.Event{})...)
		ranOf(4, upTo(1, 4), events[:20]...)
		impl.WorldNew(nodes, conf)
		if again := ranOf(nodes, conf, events...); !sameRan(first, again) {
			t.Errorf("of one life comes %s, then %s", shortRan(first), shortRan(again))
		}
	}
}
