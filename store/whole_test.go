package store_test

import (
	"slices"
	"strconv"
	"strings"
	"testing"

	"tenement/api"
	"tenement/path"
	"tenement/store"
)

// dice makes numbers by a fixed rule.
type dice uint32

func (d *dice) below(n int) int {
	*d = *d*1664525 + 1013904223
	return int(*d>>12) % n
}

func (d *dice) of(l ...string) string { return l[d.below(len(l))] }

// leaf is a node of the ghost's.
type leaf struct {
	name, value string
	perms       []api.Perm
}

func (l leaf) mayRead(dom int) bool  { r, _ := path.May(l.perms, dom); return r }
func (l leaf) mayWrite(dom int) bool { _, w := path.May(l.perms, dom); return w }

// wood is a tree as a list of leaves in no order, which is never changed: what changes is a new one.
type wood []leaf

func (w wood) at(name string) int {
	return slices.IndexFunc(w, func(l leaf) bool { return l.name == name })
}

func (w wood) has(name string) bool { return w.at(name) >= 0 }

func (w wood) with(l leaf) wood {
	w = w.without(l.name)
	return append(w, l)
}

func (w wood) without(name string) wood {
	return slices.DeleteFunc(slices.Clone(w), func(l leaf) bool { return l.name == name })
}

// sorted is leaves as they are told: a separator comes ahead of each letter.
func (w wood) sorted() wood {
	w = slices.Clone(w)
	key := func(l leaf) string { return strings.ReplaceAll(strings.TrimSuffix(l.name, "/"), "/", "\x00") }
	slices.SortFunc(w, func(a, b leaf) int { return strings.Compare(key(a), key(b)) })
	return w
}

// upper is the path right above one.
func upper(name string) string {
	up := name[:strings.LastIndex(name, "/")]
	if up == "" {
		return "/"
	}
	return up
}

// step is one change, and all that was there behind it.
type step struct {
	name   string
	behind wood
}

// history is a tree as it was, and all steps since.
type history struct {
	dom   int
	gen   int
	first wood
	steps []step
}

func (h *history) now() wood {
	if len(h.steps) == 0 {
		return h.first
	}
	return h.steps[len(h.steps)-1].behind
}

func (h *history) step(name string, w wood) { h.steps = append(h.steps, step{name, w}) }

// last is a leaf as it is, or as it was when it was there last.
func (h *history) last(name string) leaf {
	for n := len(h.steps) - 1; n >= 0; n-- {
		if w := h.steps[n].behind; w.has(name) {
			return w[w.at(name)]
		}
	}
	return h.first[h.first.at(name)]
}

// ghost is a store that copies its tree at each change and forgets none of them.
type ghost struct {
	gen     int
	tree    wood
	open    map[int]*history
	watches []api.Watch
	waiting [8][]api.Event
}

func newGhost() *ghost {
	return &ghost{tree: wood{{name: "/", perms: []api.Perm{{}}}}, open: map[int]*history{}}
}

// look tells what a call works at.
func (g *ghost) look(dom, tx int, name string) (*history, api.Errno) {
	if dom < 0 || dom > 7 {
		return nil, api.ErrArg
	}
	if _, _, e := path.Parse(name); e != api.OK {
		return nil, e
	}
	if tx == 0 {
		return &history{first: g.tree}, api.OK
	}
	h := g.open[tx]
	if h == nil || h.dom != dom {
		return nil, api.ErrNone
	}
	return h, api.OK
}

func (g *ghost) seen(dom, tx int, name string) (wood, leaf, api.Errno) {
	h, e := g.look(dom, tx, name)
	if e != api.OK {
		return nil, leaf{}, e
	}
	w := h.now()
	if !w.has(name) {
		return nil, leaf{}, api.ErrNone
	}
	l := w[w.at(name)]
	if !l.mayRead(dom) {
		return nil, leaf{}, api.ErrPerm
	}
	return w, l, api.OK
}

func (g *ghost) list(dom, tx int, name string) ([]string, api.Errno) {
	w, _, e := g.seen(dom, tx, name)
	var l []string
	for _, c := range w {
		if c.name != "/" && upper(c.name) == name {
			l = append(l, c.name[strings.LastIndex(c.name, "/")+1:])
		}
	}
	slices.Sort(l)
	return l, e
}

// done lets what a direct call did come.
func (g *ghost) done(tx int, h *history) {
	if tx == 0 {
		g.come(h)
	}
}

func (g *ghost) write(dom, tx int, name, value string) api.Errno {
	h, e := g.look(dom, tx, name)
	if e != api.OK {
		return e
	}
	if len(value) > 64 {
		return api.ErrLong
	}
	e = g.lay(h, dom, name, value)
	g.done(tx, h)
	return e
}

func (g *ghost) lay(h *history, dom int, name, value string) api.Errno {
	w := h.now()
	if w.has(name) {
		l := w[w.at(name)]
		if !l.mayWrite(dom) {
			return api.ErrPerm
		}
		l.value = value
		h.step(name, w.with(l))
		return api.OK
	}
	var way []string // the lowest first
	near := name
	for !w.has(near) {
		way = append(way, near)
		near = upper(near)
	}
	if !w[w.at(near)].mayWrite(dom) {
		return api.ErrPerm
	}
	if len(w)+len(way) > 256 {
		return api.ErrFull
	}
	slices.Reverse(way)
	for _, made := range way {
		above := w[w.at(upper(made))].perms
		own := above[0]
		own.Dom = dom
		rest := slices.DeleteFunc(slices.Clone(above[1:]), func(p api.Perm) bool { return p.Dom == dom })
		l := leaf{name: made, perms: append([]api.Perm{own}, rest...)}
		if made == name {
			l.value = value
		}
		w = w.with(l)
		h.step(made, w)
	}
	return api.OK
}

func (g *ghost) make(dom, tx int, name string) api.Errno {
	h, e := g.look(dom, tx, name)
	if e != api.OK {
		return e
	}
	if w := h.now(); w.has(name) {
		if !w[w.at(name)].mayWrite(dom) {
			return api.ErrPerm
		}
		return api.OK
	}
	return g.write(dom, tx, name, "")
}

func (g *ghost) remove(dom, tx int, name string) api.Errno {
	h, e := g.look(dom, tx, name)
	if e != api.OK {
		return e
	}
	w := h.now()
	switch {
	case name == "/":
		return api.ErrArg
	case !w.has(name):
		return api.ErrNone
	case !w[w.at(name)].mayWrite(dom):
		return api.ErrPerm
	}
	for _, l := range w.sorted() {
		if l.name == name || strings.HasPrefix(l.name, name+"/") {
			w = w.without(l.name)
			h.step(l.name, w)
		}
	}
	g.done(tx, h)
	return api.OK
}

func (g *ghost) setPerms(dom, tx int, name string, l []api.Perm) api.Errno {
	h, e := g.look(dom, tx, name)
	if e != api.OK {
		return e
	}
	if _, e := path.Text(l); e != api.OK {
		return e
	}
	w := h.now()
	if !w.has(name) {
		return api.ErrNone
	}
	was := w[w.at(name)]
	if dom != 0 && (was.perms[0].Dom != dom || l[0].Dom != dom) {
		return api.ErrPerm
	}
	was.perms = l
	h.step(name, w.with(was))
	g.done(tx, h)
	return api.OK
}

func (g *ghost) begin(dom int) (int, api.Errno) {
	if dom < 0 || dom > 7 {
		return 0, api.ErrArg
	}
	own := 0
	for _, h := range g.open {
		if h.dom == dom {
			own++
		}
	}
	if own == 8 {
		return 0, api.ErrFull
	}
	n := 1
	for g.open[n] != nil {
		n++
	}
	g.open[n] = &history{dom: dom, gen: g.gen, first: g.tree}
	return n, api.OK
}

func (g *ghost) end(dom, tx int, commit bool) api.Errno {
	if dom < 0 || dom > 7 {
		return api.ErrArg
	}
	h := g.open[tx]
	if h == nil || h.dom != dom {
		return api.ErrNone
	}
	delete(g.open, tx)
	if commit && len(h.steps) > 0 && h.gen != g.gen {
		return api.ErrAgain
	}
	if commit {
		g.come(h)
	}
	return api.OK
}

// come lets all steps come, each to each watch.
func (g *ghost) come(h *history) {
	if len(h.steps) == 0 {
		return
	}
	g.gen++
	g.tree = h.now()
	for _, s := range h.steps {
		l := h.last(s.name)
		for _, w := range g.watches {
			under := w.Path == "/" || s.name == w.Path || strings.HasPrefix(s.name, w.Path+"/")
			e := api.Event{Path: s.name, Token: w.Token}
			if under && l.mayRead(w.Dom) && !slices.Contains(g.waiting[w.Dom], e) {
				g.waiting[w.Dom] = append(g.waiting[w.Dom], e)
			}
		}
	}
}

func (g *ghost) watch(dom int, name, token string) api.Errno {
	if _, e := g.look(dom, 0, name); e != api.OK {
		return e
	}
	w := api.Watch{Dom: dom, Path: name, Token: token}
	own := 0
	for _, o := range g.watches {
		if o.Dom == dom {
			own++
		}
	}
	switch {
	case len(token) > 64:
		return api.ErrLong
	case slices.Contains(g.watches, w):
		return api.ErrTwice
	case own == 16:
		return api.ErrFull
	}
	g.watches = append(g.watches, w)
	return api.OK
}

func (g *ghost) unwatch(dom int, name, token string) api.Errno {
	if _, e := g.look(dom, 0, name); e != api.OK {
		return e
	}
	w := api.Watch{Dom: dom, Path: name, Token: token}
	if !slices.Contains(g.watches, w) {
		return api.ErrNone
	}
	g.watches = slices.DeleteFunc(slices.Clone(g.watches), func(o api.Watch) bool { return o == w })
	return api.OK
}

func (g *ghost) next(dom int) (api.Event, api.Errno) {
	if dom < 0 || dom > 7 {
		return api.Event{}, api.ErrArg
	}
	if len(g.waiting[dom]) == 0 {
		return api.Event{}, api.ErrNone
	}
	e := g.waiting[dom][0]
	g.waiting[dom] = slices.Clone(g.waiting[dom][1:])
	return e, api.OK
}

func (g *ghost) drop(dom int) api.Errno {
	if dom < 0 || dom > 7 {
		return api.ErrArg
	}
	g.watches = slices.DeleteFunc(slices.Clone(g.watches), func(w api.Watch) bool { return w.Dom == dom })
	g.waiting[dom] = nil
	for n, h := range g.open {
		if h.dom == dom {
			delete(g.open, n)
		}
	}
	return api.OK
}

// picture tells what a store must tell.
func (g *ghost) picture() string {
	var text strings.Builder
	text.WriteString(strconv.Itoa(g.gen))
	for _, l := range g.tree.sorted() {
		pictureNode(&text, l.name, l.value, l.perms)
	}
	for dom, l := range g.waiting {
		pictureEvents(&text, dom, l)
	}
	return text.String()
}

// Numbers of the calls.
const (
	cRead = iota
	cList
	cPerms
	cWrite
	cMake
	cRemove
	cSetPerms
	cBegin
	cEnd
	cWatch
	cUnwatch
	cNext
	cDrop
)

// act is a call and its arguments.
type act struct {
	call, dom, tx      int
	name, value, token string
	perms              []api.Perm
	commit             bool
}

// roll chooses a call. Few names, domains and tokens let calls meet; now and then an argument can't be.
func (d *dice) roll(open []int) act {
	c := act{call: []int{cRead, cList, cPerms, cWrite, cWrite, cWrite, cMake, cMake, cRemove, cSetPerms, cSetPerms, cSetPerms, cBegin, cEnd, cEnd, cWatch, cUnwatch, cNext, cNext}[d.below(19)]}
	c.dom = []int{0, 0, 0, 1, 1, 2, 3, 7}[d.below(8)]
	c.name = d.name()
	c.value = d.of("", "1", "2", of(64, "v"))
	c.token = d.of("", "t", "u")
	c.commit = d.below(4) > 0
	if len(open) > 0 && d.below(3) > 0 {
		c.tx = open[d.below(len(open))]
	}
	for dom := range 8 {
		if p := (api.Perm{Dom: (dom + c.dom) % 8, Read: d.below(2) == 0, Write: d.below(2) == 0}); d.below(3) == 0 || dom == 0 {
			c.perms = append(c.perms, p)
		}
	}
	if d.below(40) == 0 {
		d.spoil(&c)
	}
	return c
}

func (d *dice) name() string {
	if d.below(30) == 0 {
		return "/"
	}
	s := ""
	for range 1 + d.below(4) {
		s += "/" + d.of("a", "a", "b", "a-", "B")
	}
	return s
}

// spoil makes something of a call what can't be, or what seldom is.
func (d *dice) spoil(c *act) {
	switch d.below(9) {
	case 0:
		c.dom = []int{-1, 8, -1 << 62, 1 << 62}[d.below(4)]
	case 1:
		c.name = d.of("", "a", "/a/", deepest+"/i", "/"+longest+"a")
	case 2:
		c.tx = []int{-1, 99, 1, 2}[d.below(4)]
	case 3:
		c.value, c.token = of(65, "v"), of(65, "t")
	case 4:
		c.perms = append(c.perms, c.perms[0])
	case 5:
		c.perms = nil
	case 6:
		c.call = cDrop
	case 7:
		c.name = deepest
	case 8:
		c.perms[0].Dom = (c.perms[0].Dom + 1) % 8
	}
}

// answer is what a call told, as a text.
func answer(e api.Errno, l ...string) string {
	return strconv.Itoa(int(e)) + " " + strconv.Quote(strings.Join(l, " "))
}

func onStore(s *store.Store, c act) string {
	switch c.call {
	case cRead:
		v, e := s.Read(c.dom, c.tx, c.name)
		return answer(e, string(v))
	case cList:
		l, e := s.List(c.dom, c.tx, c.name)
		return answer(e, l...)
	case cPerms:
		l, e := s.Perms(c.dom, c.tx, c.name)
		text, _ := path.Text(l)
		return answer(e, text)
	case cWrite:
		return answer(s.Write(c.dom, c.tx, c.name, []byte(c.value)))
	case cMake:
		return answer(s.Make(c.dom, c.tx, c.name))
	case cRemove:
		return answer(s.Remove(c.dom, c.tx, c.name))
	case cSetPerms:
		return answer(s.SetPerms(c.dom, c.tx, c.name, c.perms))
	case cBegin:
		n, e := s.Begin(c.dom)
		return answer(e, strconv.Itoa(n))
	case cEnd:
		return answer(s.End(c.dom, c.tx, c.commit))
	case cWatch:
		return answer(s.Watch(c.dom, c.name, c.token))
	case cUnwatch:
		return answer(s.Unwatch(c.dom, c.name, c.token))
	case cNext:
		event, e := s.Next(c.dom)
		return answer(e, event.Path, event.Token)
	}
	return answer(s.Drop(c.dom))
}

func onGhost(g *ghost, c act) string {
	switch c.call {
	case cRead:
		_, l, e := g.seen(c.dom, c.tx, c.name)
		return answer(e, l.value)
	case cList:
		l, e := g.list(c.dom, c.tx, c.name)
		return answer(e, l...)
	case cPerms:
		_, l, e := g.seen(c.dom, c.tx, c.name)
		text, _ := path.Text(l.perms)
		return answer(e, text)
	case cWrite:
		return answer(g.write(c.dom, c.tx, c.name, c.value))
	case cMake:
		return answer(g.make(c.dom, c.tx, c.name))
	case cRemove:
		return answer(g.remove(c.dom, c.tx, c.name))
	case cSetPerms:
		return answer(g.setPerms(c.dom, c.tx, c.name, c.perms))
	case cBegin:
		n, e := g.begin(c.dom)
		return answer(e, strconv.Itoa(n))
	case cEnd:
		return answer(g.end(c.dom, c.tx, c.commit))
	case cWatch:
		return answer(g.watch(c.dom, c.name, c.token))
	case cUnwatch:
		return answer(g.unwatch(c.dom, c.name, c.token))
	case cNext:
		event, e := g.next(c.dom)
		return answer(e, event.Path, event.Token)
	}
	return answer(g.drop(c.dom))
}

// own makes a call that names an open transaction one of the domain that has it open, so that most are of use.
func (g *ghost) own(d *dice, c *act) {
	if h := g.open[c.tx]; h != nil && d.below(20) > 0 {
		c.dom = h.dom
	}
}

// numbers tells the open transactions, rising.
func (g *ghost) numbers() []int {
	var l []int
	for n := range g.open {
		l = append(l, n)
	}
	slices.Sort(l)
	return l
}

// Calls in any order answer what a store answers that forgets nothing.
func TestAgainstAGhost(t *testing.T) {
	errors := map[string]int{}
	for seed := range 60 {
		d := dice(seed)
		s, g := store.New(), newGhost()
		if seed%6 == 0 { // so full that each node more may be one too many
			for n := range 240 {
				c := act{call: cMake, name: "/B/" + strconv.Itoa(n)}
				onStore(s, c)
				onGhost(g, c)
			}
		}
		if seed%2 == 0 {
			c := act{call: cSetPerms, name: "/", perms: perms("b0")}
			onStore(s, c)
			onGhost(g, c)
		}
		for n := range 700 {
			l := g.numbers()
			c := d.roll(l)
			if seed%3 == 1 && len(l) > 0 {
				c.tx = l[0] // so that much comes by one commit, and it doesn't come too late
			}
			g.own(&d, &c)
			want := onGhost(g, c)
			if is := onStore(s, c); is != want {
				t.Fatalf("seed %d, call %d, %+v: %s, not %s", seed, n, c, is, want)
			}
			errors[strconv.Itoa(c.call)+": "+strings.Fields(want)[0]]++
			if len(g.tree) > 200 && n%25 != 0 {
				continue // a picture of so many takes long
			}
			if is, want := picture(s), g.picture(); is != want {
				t.Fatalf("seed %d, behind call %d, %+v:\n%s\nnot\n%s", seed, n, c, is, want)
			}
		}
	}
	// All that can be answered was.
	for call, l := range map[int][]api.Errno{
		cRead:     {api.OK, api.ErrArg, api.ErrPath, api.ErrLong, api.ErrNone, api.ErrPerm},
		cList:     {api.OK, api.ErrArg, api.ErrNone, api.ErrPerm},
		cPerms:    {api.OK, api.ErrArg, api.ErrNone, api.ErrPerm},
		cWrite:    {api.OK, api.ErrArg, api.ErrPath, api.ErrLong, api.ErrNone, api.ErrPerm, api.ErrFull},
		cMake:     {api.OK, api.ErrArg, api.ErrPath, api.ErrLong, api.ErrNone, api.ErrPerm, api.ErrFull},
		cRemove:   {api.OK, api.ErrArg, api.ErrPath, api.ErrNone, api.ErrPerm},
		cSetPerms: {api.OK, api.ErrArg, api.ErrPath, api.ErrNone, api.ErrPerm},
		cBegin:    {api.OK, api.ErrArg, api.ErrFull},
		cEnd:      {api.OK, api.ErrArg, api.ErrNone, api.ErrAgain},
		cWatch:    {api.OK, api.ErrArg, api.ErrPath, api.ErrLong, api.ErrTwice, api.ErrFull},
		cUnwatch:  {api.OK, api.ErrArg, api.ErrPath, api.ErrNone},
		cNext:     {api.OK, api.ErrArg, api.ErrNone},
		cDrop:     {api.OK},
	} {
		for _, e := range l {
			if errors[strconv.Itoa(call)+": "+strconv.Itoa(int(e))] == 0 {
				t.Errorf("call %d was never answered %v", call, e)
			}
		}
	}
}

// P10.7

// What was committed and done directly is what a store has to which it is done directly, one behind the other in the order of the commits; each such call is OK there too.
func TestOneBehindTheOther(t *testing.T) {
	commits := 0
	for seed := range 60 {
		d := dice(1000 + seed)
		s := store.New()
		s.SetPerms(0, 0, "/", perms("b0"))
		open := map[int][]act{}
		numbers := map[int]int{} // of each open one the domain
		var done []act
		for range 400 {
			l := []int{}
			for n := range numbers {
				l = append(l, n)
			}
			slices.Sort(l)
			c := d.roll(l)
			if dom, ok := numbers[c.tx]; ok {
				c.dom = dom
			}
			switch c.call {
			case cBegin:
				if n, e := s.Begin(c.dom); e == api.OK {
					numbers[n] = c.dom
				}
			case cEnd:
				before := s.Gen()
				if s.End(c.dom, c.tx, c.commit) == api.OK && c.commit {
					done = append(done, open[c.tx]...)
					commits += s.Gen() - before
				}
				delete(numbers, c.tx)
				delete(open, c.tx)
			case cWrite, cMake, cRemove, cSetPerms:
				if onStore(s, c) != answer(api.OK) {
					continue
				}
				if c.tx == 0 {
					done = append(done, c)
				} else {
					open[c.tx] = append(open[c.tx], c)
				}
			}
		}
		again := store.New()
		again.SetPerms(0, 0, "/", perms("b0"))
		for _, c := range done {
			c.tx = 0
			if is := onStore(again, c); is != answer(api.OK) {
				t.Fatalf("seed %d: %+v: %s", seed, c, is)
			}
		}
		is, want := picture(again), picture(s)
		_, is, _ = strings.Cut(is, "\n") // the generations differ
		_, want, _ = strings.Cut(want, "\n")
		if is != want {
			t.Fatalf("seed %d:\n%s\nnot\n%s", seed, is, want)
		}
	}
	if commits < 100 {
		t.Errorf("%d commits only", commits)
	}
}

// What ends without a commit, or too late, leaves no trace: a store to which it was never done tells the same.
func TestLostTransactionsLeaveNothing(t *testing.T) {
	lost := 0
	for seed := range 40 {
		d := dice(2000 + seed)
		s, other := store.New(), store.New()
		for _, x := range []*store.Store{s, other} {
			x.SetPerms(0, 0, "/", perms("b0"))
			for dom := range 4 {
				x.Watch(dom, "/", "t")
			}
		}
		for range 100 {
			dom := d.below(4)
			tx, _ := s.Begin(dom)
			late := false
			for range 1 + d.below(6) {
				c := d.roll(nil)
				if c.call < cWrite || c.call > cSetPerms {
					continue
				}
				if d.below(3) == 0 {
					gen := s.Gen()
					onStore(s, c)
					onStore(other, c)
					late = late || s.Gen() != gen
					continue
				}
				c.dom, c.tx = dom, tx
				onStore(s, c)
			}
			e := s.End(dom, tx, late)
			if late && e != api.ErrAgain && e != api.OK || !late && e != api.OK {
				t.Fatalf("seed %d: End: %v", seed, e)
			}
			if e == api.ErrAgain {
				lost++
			}
			if is, want := picture(s), picture(other); is != want {
				t.Fatalf("seed %d:\n%s\nnot\n%s", seed, is, want)
			}
		}
	}
	if lost < 100 {
		t.Errorf("%d were lost only", lost)
	}
}

// No event that comes tells a path of a node that its domain may not read.
func TestEventsRevealNothing(t *testing.T) {
	events := 0
	for seed := range 40 {
		d := dice(3000 + seed)
		s := store.New()
		s.SetPerms(0, 0, "/", perms("b0"))
		for dom := range 8 {
			s.Watch(dom, "/", "t")
		}
		for range 300 {
			c := d.roll(nil)
			if c.call == cDrop || c.call == cUnwatch {
				continue
			}
			before := map[string][]api.Perm{}
			for _, name := range s.Nodes() {
				before[name], _ = s.Perms(0, 0, name)
			}
			onStore(s, c)
			for dom := range 8 {
				for range s.Waiting(dom) {
					event, _ := s.Next(dom)
					events++
					l, e := s.Perms(0, 0, event.Path)
					if e == api.ErrNone {
						l = before[event.Path]
					}
					if may, _ := path.May(l, dom); !may {
						t.Fatalf("seed %d: behind %+v domain %d is told %v", seed, c, dom, event)
					}
				}
			}
		}
	}
	if events < 1000 {
		t.Errorf("%d events only", events)
	}
}
