package tests

import (
	"fmt"
	"slices"
	"strconv"
	"strings"
	"sync"
	"testing"

	"loop.example/g00103/impl"
)

// wordFor is how a line tells a text.
func wordFor(text string) string {
	if text == "" {
		return "-"
	}
	return text
}

func figuresOf(conf []int) string {
	text := ""
	for _, id := range conf {
		text += strconv.Itoa(id)
	}
	return text
}

// partsOfEvent are those of its line, without a power.
func partsOfEvent(e impl.Event) []string {
	c, node := e.Command, fmt.Sprint(e.Node)
	switch e.Kind {
	case 1, 9:
		return []string{map[int]string{1: "tick", 9: "up"}[e.Kind], node, fmt.Sprint(e.Limit)}
	case 2, 3, 4:
		return []string{map[int]string{2: "deliver", 3: "drop", 4: "copy"}[e.Kind], fmt.Sprint(e.At)}
	case 6:
		return []string{"conf", node, figuresOf(e.Conf)}
	case 7, 8:
		return []string{map[int]string{7: "merge", 8: "down"}[e.Kind], node}
	}
	asks := []string{node, fmt.Sprint(c.Session), fmt.Sprint(c.Seq), wordFor(c.Key)}
	switch c.Op {
	case 1:
		return []string{"open", node}
	case 2:
		return append([]string{"get"}, asks...)
	case 3:
		return append(append([]string{"put"}, asks...), wordFor(c.Value))
	case 4:
		return append([]string{"cut"}, asks...)
	}
	return append(append([]string{"swap"}, asks...), wordFor(c.Old), wordFor(c.Value))
}

func lineOf(e impl.Event) string {
	line := strings.Join(partsOfEvent(e), " ")
	if e.Cut {
		return fmt.Sprintf("power %d %d %s", e.Whole, e.Part, line)
	}
	return line
}

func linesOf(nodes int, conf []int, events []impl.Event) []string {
	lines := []string{fmt.Sprintf("cluster %d %s", nodes, figuresOf(conf))}
	for _, e := range events {
		lines = append(lines, lineOf(e))
	}
	return lines
}

// wordIn is a text that can be told in a line, of as many bytes.
func wordIn(text string) string {
	var word []byte
	for _, b := range []byte(text) {
		word = append(word, 33+b%94)
	}
	if string(word) == "-" {
		return "+"
	}
	return string(word)
}

// tellable is drawnEvent, but that a line can tell it; the power goes amid some.
func tellable(d *drawing, w impl.World) impl.Event {
	e := drawnEvent(d, w)
	e.At %= 1000000001
	e.Command.Value = wordIn(e.Command.Value)
	if e.Command.Op == 5 && d.below(3) == 0 {
		e.Command.Value, e.Command.Old = e.Command.Old, e.Command.Value
	}
	if d.below(12) == 0 {
		e = cutEvent(e, d.below(12), d.below([]int{1, 20, 80}[d.below(3)]))
	}
	return e
}

// toldLife are the lines of a drawn life.
func toldLife(d *drawing, count int) []string {
	nodes, conf := drawnCluster(d)
	p := newSwiftCluster(nodes, conf)
	cameUpSoon(d, p)
	for len(p.events) < count {
		p.happen(tellable(d, p.world))
	}
	return linesOf(nodes, conf, p.events)
}

// drawnRemark is a line that is passed over; a short one.
func drawnRemark(d *drawing) string {
	switch d.below(4) {
	case 0:
		return ""
	case 1:
		return strings.Repeat(" ", 1+d.below(9))
	case 2:
		return strings.Repeat(" ", d.below(3)) + "#" + wordIn(d.bytes(20))
	}
	return "# " + []string{"tick 1 1", "cluster 4 1234", "power 1 2", "x", "- -", "down 1 2 3 4 5 6"}[d.below(6)]
}

// drawnBlanks puts blanks between the parts of a line, or about them.
func drawnBlanks(d *drawing, line string) string {
	text := strings.Repeat(" ", d.below(3))
	for _, part := range strings.Split(line, " ") {
		text += part + strings.Repeat(" ", 1+d.below(3))
	}
	return text[:len(text)-d.below(2)]
}

// drawnScript tells a life, with so many lines that are passed over anywhere.
func drawnScript(d *drawing, lines []string, over int) string {
	lines = slices.Clone(lines)
	for at := range lines {
		if d.below(3) == 0 {
			lines[at] = drawnBlanks(d, lines[at])
		}
	}
	for range over {
		lines = slices.Insert(lines, d.below(len(lines)+1), drawnRemark(d))
	}
	text := strings.Join(lines, "\n")
	if d.below(2) == 0 || strings.HasSuffix(text, "\n") {
		text += "\n"
	}
	return text
}

// P23: what a script tells is what its events do.
func TestDrawnLivesToldInLines(t *testing.T) {
	seen := livesOf(t, 400, func(t *testing.T, seed int, seen map[string]int) {
		d := &drawing{state: uint32(200000 + 17*seed)}
		nodes, conf := drawnCluster(d)
		p := newSwiftCluster(nodes, conf)
		cameUpSoon(d, p)
		for _, count := range numbers(len(p.events), 20, 40, 60) {
			for len(p.events) < count {
				e := tellable(d, p.world)
				number := p.happen(e)
				seen[fmt.Sprint("kind ", e.Kind, " number ", number)]++
				seen[fmt.Sprint("op ", e.Command.Op)]++
			}
			why := fmt.Sprint("life ", seed, " of ", count)
			lines := linesOf(nodes, conf, p.events)
			want := scriptRead{nodes, conf, p.events, 0}
			text := strings.Join(lines, "\n")
			wantScript(t, why, text, want)
			shown := impl.Console(text)
			if told := plainShowRan(p.ran()); shown != told {
				t.Errorf("%s: Console(%q) = %q; the plain rule of lives tells %q", why, text, shown, told)
			}
			for _, over := range numbers(0, 1, 5, 89-count) {
				other := drawnScript(d, lines, over)
				wantScript(t, why+", other lines between", other, want)
				if again := impl.Console(other); again != shown {
					t.Errorf("%s: with lines that are passed over Console is %q; without %q", why, again, shown)
				}
			}
		}
		lookedAt(p.world, seen)
	})
	wantSeen(t, seen, map[string]int{
		"kind 1 number 0": 900, "kind 1 number 3": 50, "kind 2 number 0": 1500, "kind 2 number 3": 90, "kind 3 number 0": 60, "kind 4 number 0": 90, "kind 5 number 0": 900, "kind 5 number 2": 50, "kind 5 number 3": 50,
		"kind 6 number 0": 50, "kind 6 number 2": 50, "kind 7 number 0": 90, "kind 7 number 3": 20, "kind 8 number 0": 200, "kind 9 number 0": 500,
		"op 1": 200, "op 2": 150, "op 3": 150, "op 4": 150, "op 5": 150, "leaders": 300, "applied": 700, "replies": 300, "waits": 50,
	})
}

// Each line alone that can be told of a drawn event is read as this event.
func TestDrawnEventsToldInLines(t *testing.T) {
	d := &drawing{state: 201}
	kinds := map[int]int{}
	for range 3000 {
		c := impl.Command{Op: 1 + d.below(5)}
		if c.Op > 1 {
			c.Session, c.Seq, c.Key = d.below(100001), d.below(100001), wordIn("x"+d.bytes(8))
		}
		if c.Op == 3 || c.Op == 5 {
			c.Value = wordIn(d.bytes(12))
		}
		if c.Op == 5 {
			c.Old = wordIn(d.bytes(12))
		}
		node, limit, at := 1+d.below(4), 1+d.below(20), d.below(1000000001)
		conf := drawnSet(d, 4, 1, 5)
		if len(conf) == 0 {
			conf = upTo(1, 4)
		}
		e := []impl.Event{tickEvent(node, limit), deliverEvent(at), dropEvent(at), copyEvent(at), callEvent(node, c), confEvent(node, conf...), mergeEvent(node), downEvent(node), upEvent(node, limit)}[d.below(9)]
		if d.below(2) == 0 {
			e = cutEvent(e, d.below(1000000001), d.below(1000000001))
		}
		kinds[e.Kind]++
		wantEvents(t, "a drawn event", four+drawnBlanks(d, lineOf(e)), e)
	}
	for kind := 1; kind <= 9; kind++ {
		if kinds[kind] < 200 {
			t.Errorf("of the Kind %d there were %d", kind, kinds[kind])
		}
	}
}

// spoiledScript has one thing else.
func spoiledScript(d *drawing, text string) string {
	lines := strings.Split(text, "\n")
	at, other := d.below(len(lines)), d.below(len(lines))
	parts := strings.Split(lines[at], " ")
	part := d.below(len(parts))
	switch d.below(11) {
	case 0:
		return turned(text, d.below(len(text)), 1+d.below(255))
	case 1:
		return text[:d.below(len(text))]
	case 2:
		place := d.below(len(text))
		return text[:place] + text[place+1:]
	case 3:
		place := d.below(len(text))
		return text[:place] + []string{" ", "\n", "#", "-", "0", "1", "9", "x", "\x80", "\t"}[d.below(10)] + text[place:]
	case 4:
		lines = slices.Insert(lines, other, lines[at])
	case 5:
		lines = slices.Delete(lines, at, at+1)
	case 6:
		lines[at], lines[other] = lines[other], lines[at]
	case 7:
		parts = slices.Delete(parts, part, part+1)
		lines[at] = strings.Join(parts, " ")
	case 8:
		lines[at] = strings.Join(slices.Insert(parts, part, parts[d.below(len(parts))]), " ")
	case 9:
		parts[part] = []string{"0", "1", "5", "20", "21", "-", "#", "12", "1000000001", "put", "power", "00", ""}[d.below(13)]
		lines[at] = strings.Join(parts, " ")
	case 10:
		lines[at] = fmt.Sprintf("power %d %d ", d.below(9), d.below(9)) + lines[at]
	}
	return strings.Join(lines, "\n")
}

func TestSpoiledScripts(t *testing.T) {
	seen := livesOf(t, 240, func(t *testing.T, seed int, seen map[string]int) {
		d := &drawing{state: uint32(202000 + 19*seed)}
		lines := toldLife(d, 12+d.below(49))
		text := drawnScript(d, lines, d.below(90-len(lines)))
		for range 60 {
			spoiled := spoiledScript(d, text)
			for range d.below(3) {
				if spoiled != "" {
					spoiled = spoiledScript(d, spoiled)
				}
			}
			got := wantPlainScript(t, fmt.Sprint("spoiled ", seed), spoiled)
			switch {
			case got.fault == 0:
				seen["no fault"]++
			case got.fault < 2:
				seen[fmt.Sprint("fault ", got.fault)]++
			default:
				seen["later fault"]++
			}
		}
	})
	wantSeen(t, seen, map[string]int{"no fault": 1500, "fault 1": 150, "later fault": 5000})
}

// Texts of words that mean something, in any order.
func TestDrawnWords(t *testing.T) {
	words := []string{"cluster", "power", "tick", "deliver", "drop", "copy", "open", "get", "cut", "put", "swap", "conf", "merge", "down", "up", "1", "1", "1", "2", "4", "12", "1234", "0", "-", "#", "a", "20", "1 1", "1 1 1", "1 1 1 a", "power 1 2", "down 1", "tick 1", "put 1 1 1", "\n", "\n", "\n", " ", "\x00", "\xff", "\u00e9"}
	d := &drawing{state: 203}
	right := 0
	for range 30000 {
		text := []string{"", four, "cluster 1 1\n", "#\n" + four}[d.below(4)]
		for range d.below(8) {
			text += words[d.below(len(words))] + []string{" ", " ", "  ", ""}[d.below(4)]
		}
		if got := wantPlainScript(t, "words", text); len(got.events) > 0 {
			right++
		}
	}
	if right < 200 {
		t.Errorf("%d of the texts tell an event", right)
	}
}

func TestDrawnBytesOfScripts(t *testing.T) {
	d := &drawing{state: 204}
	for range 3000 {
		text := d.bytes([]int{5, 50, 500}[d.below(3)])
		wantPlainScript(t, "any bytes", text)
		wantPlainScript(t, "any bytes behind a first line", four+text)
		wantPlainScript(t, "few bytes", wordIn(text))
	}
	for range 40 {
		wantPlainScript(t, "many bytes", d.bytes(9000))
		wantPlainScript(t, "many bytes, a first line", four+d.bytes(9000))
	}
}

// wordsOfEvents are the texts of the events' commands.
func wordsOfEvents(events []impl.Event) []string {
	var words []string
	for _, e := range events {
		words = append(words, e.Command.Key, e.Command.Value, e.Command.Old)
	}
	return words
}

func overwriteEvents(list []impl.Event) {
	for at := range list[:cap(list)] {
		list[:cap(list)][at] = impl.Event{Kind: -7, At: -7}
	}
}

// listsOfRead are all lists of an answer.
func listsOfRead(s scriptRead) []listPart {
	parts := []listPart{{func() string { return fmt.Sprint(s.conf) }, func() { overwrite(s.conf) }}}
	for _, e := range s.events {
		conf := e.Conf
		parts = append(parts, listPart{func() string { return fmt.Sprint(conf) }, func() { overwrite(conf) }})
	}
	bare := func() string {
		text := ""
		for _, e := range s.events {
			text += fmt.Sprint(e.Kind, e.Node, e.At, e.Limit, e.Command, e.Cut, e.Whole, e.Part)
		}
		return text
	}
	return append(parts, listPart{bare, func() { overwriteEvents(s.events) }})
}

func TestAnswersOfConsolesAreNewMemory(t *testing.T) {
	d := &drawing{state: 205}
	for range 100 {
		lines := append(toldLife(d, 30+d.below(31))[:30:30], "conf 1 1", "conf 1 1", "put 1 1 1 same same", "swap 1 1 1 same same same")
		text := strings.Clone(drawnScript(d, lines, 9))
		was := strings.Clone(text)
		first, second := readOf(text), readOf(text)
		if first.fault != 0 || len(first.events) != 33 {
			t.Fatalf("ReadScript(%q) = %+v", text, first)
		}
		words := wordsOfEvents(first.events)
		wantOwn(t, "ReadScript", words, []string{text})
		wantOwn(t, "ReadScript, another answer", words, wordsOfEvents(second.events))
		for at := range words {
			wantOwn(t, "ReadScript, another text", words[at:at+1], words[at+1:])
		}
		wantPartsApart(t, "ReadScript", listsOfRead(first))
		if want := plainReadScript(text); !sameRead(second, want) || text != was {
			t.Errorf("two answers of ReadScript share memory: %+v; want %+v", second, want)
		}
		shown, again := impl.Console(text), impl.Console(text)
		wantOwn(t, "Console", []string{shown}, []string{text, again})
		wantOwn(t, "Console, the other way round", []string{text, again}, []string{shown})
	}
	one, two := impl.ShowWorld(impl.World{}), impl.ShowWorld(impl.World{})
	wantOwn(t, "ShowWorld", []string{one}, []string{two})
	reply := strings.Clone("open 1")
	shown := impl.ShowWorld(impl.World{Replies: []impl.Reply{repliedTo(openNew(), reply)}})
	wantOwn(t, "ShowWorld", []string{shown, reply}, []string{reply[:0], shown[len(shown):]})
	wantOwn(t, "ShowWorld", []string{shown}, []string{reply})
	wantOwn(t, "ShowWorld, the other way round", []string{reply}, []string{shown})
}

func TestArgumentsOfShowWorldStay(t *testing.T) {
	d := &drawing{state: 206}
	for range 60 {
		nodes, conf, events := richLife(d)
		sound := ranOf(nodes, conf, events...).world
		for _, other := range []impl.World{sound, spoiledWorld(d, sound), handWorld(), {}} {
			w := worldWithRoom(other)
			was := roomOfWorld(w)
			wantShown(t, "a drawn world", w, plainShow(other))
			if now := roomOfWorld(w); now != was {
				t.Fatalf("the argument is another now: %s; was %s", now, was)
			}
		}
	}
}

// Nothing is kept from one call to another.
func TestConsolesKeepNothing(t *testing.T) {
	d := &drawing{state: 207}
	var texts []string
	for range 20 {
		text := drawnScript(d, toldLife(d, 20+d.below(41)), 7)
		texts = append(texts, text, spoiledScript(d, text), text+"x\n", "", scriptOfSize(8001, ""))
	}
	var all sync.WaitGroup
	for worker := range 8 {
		all.Go(func() {
			for at := range texts {
				wantPlainScript(t, "at once", texts[(at*7+worker)%len(texts)])
			}
		})
	}
	all.Wait()
}
