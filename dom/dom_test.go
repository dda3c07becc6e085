package dom_test

import (
	"math"
	"testing"

	"tenement/api"
	"tenement/dom"
	"tenement/p2m"
	"tenement/view"
)

func TestExamples(t *testing.T) {
	b := makeBed(t, 10)
	b.left(8)
	b.built(0, 0, api.ErrBadSize)
	b.built(7, 0, api.ErrNoFrames)
	b.built(3, 0, api.OK)
	b.owned(0, 2, 3, 4, 5, 6)
	b.dom(0, api.Dom{State: api.DomPaused, Size: 3, Frames: 5, Grant: 2, Root: 5}, api.OK)
	b.want("Unpause", b.h.Unpause(0), api.OK)
	b.want("Destroy", b.h.Destroy(0), api.OK)
	b.left(8)
	b.dom(0, api.Dom{}, api.ErrNone)
}

// P17.2

// inStates is a bed of four's whose domain 0 is running, 1 paused, 2 dying with one frame, 3 none.
func inStates(t *testing.T) *bed {
	t.Helper()
	b := four(t)
	b.want("Unpause", b.h.Unpause(0), api.OK)
	b.mapped(0, 2, 1, false)
	b.destroy(2)
	return b
}

func TestCallsInEachState(t *testing.T) {
	calls := []struct {
		name string
		do   func(h *dom.Hyper, n int) api.Errno
		want [4]api.Errno // running, paused, dying, none
	}{
		{"Pause", (*dom.Hyper).Pause, [4]api.Errno{api.OK, api.ErrState, api.ErrState, api.ErrNone}},
		{"Unpause", (*dom.Hyper).Unpause, [4]api.Errno{api.ErrState, api.OK, api.ErrState, api.ErrNone}},
		{"Live", (*dom.Hyper).Live, [4]api.Errno{api.OK, api.OK, api.ErrDying, api.ErrNone}},
		{"Destroy", (*dom.Hyper).Destroy, [4]api.Errno{api.OK, api.OK, api.ErrDying, api.ErrNone}},
	}
	for _, c := range calls {
		for n, e := range c.want {
			b := inStates(t)
			if e != api.OK || c.name == "Live" {
				b.same(func() { b.want(c.name, c.do(b.h, n), e) })
			} else {
				b.want(c.name, c.do(b.h, n), e)
			}
		}
		b := inStates(t)
		b.same(func() {
			for _, n := range noDomains {
				b.want(c.name, c.do(b.h, n), api.ErrArg)
			}
		})
	}
}

func TestPauseAndUnpauseChangeTheStateAlone(t *testing.T) {
	b := four(t)
	was := look(b.h)
	for range 3 {
		b.want("Unpause", b.h.Unpause(1), api.OK)
		b.dom(1, api.Dom{State: api.DomRunning, Size: 4, Frames: 6, Grant: first(1), Root: root(1)}, api.OK)
		b.dom(0, api.Dom{State: api.DomPaused, Size: 4, Frames: 6, Grant: first(0), Root: root(0)}, api.OK)
		b.want("Unpause", b.h.Unpause(1), api.ErrState)
		b.want("Pause", b.h.Pause(1), api.OK)
		b.want("Pause", b.h.Pause(1), api.ErrState)
		if is := look(b.h); is != was {
			t.Fatalf("it has changed from\n%s\nto\n%s", was, is)
		}
	}
}

func TestDom(t *testing.T) {
	b := inStates(t)
	b.dom(0, api.Dom{State: api.DomRunning, Size: 4, Frames: 6, Grant: first(0), Root: root(0)}, api.OK)
	b.dom(1, api.Dom{State: api.DomPaused, Size: 4, Frames: 6, Grant: first(1), Root: root(1)}, api.OK)
	b.dom(2, api.Dom{State: api.DomDying, Size: 4, Frames: 1, Grant: -1, Root: -1}, api.OK)
	b.dom(3, api.Dom{}, api.ErrNone)
	for _, n := range noDomains {
		b.dom(n, api.Dom{}, api.ErrArg)
	}
}

// A domain's frames and its root change; its size and its grant frame are those that it was built with.
func TestDomOfAChangedDomain(t *testing.T) {
	b := four(t)
	_, e := b.h.Mmu().Update(0, []api.Update{{Table: leaf(0), Index: 3}})
	b.want("Update", e, api.OK)
	b.lay(1, 0, api.Grant{Kind: 2, Dom: 0, Gpfn: 40, Len: 256})
	b.want("Transfer", b.h.Grants().Transfer(b.view(), 0, 3, 1, 0), api.OK)
	b.dom(0, api.Dom{State: api.DomPaused, Size: 4, Frames: 5, Grant: first(0), Root: root(0)}, api.OK)
	b.dom(1, api.Dom{State: api.DomPaused, Size: 4, Frames: 7, Grant: first(1), Root: root(1)}, api.OK)
	b.want("Base", b.h.Mmu().Base(1, first(0)+3), api.OK)
	b.dom(1, api.Dom{State: api.DomPaused, Size: 4, Frames: 7, Grant: first(1), Root: first(0) + 3}, api.OK)
	b.want("Base", b.h.Mmu().Base(1, -1), api.OK)
	b.dom(1, api.Dom{State: api.DomPaused, Size: 4, Frames: 7, Grant: first(1), Root: -1}, api.OK)
	b.h.Map(1).Clear(0)
	b.dom(1, api.Dom{State: api.DomPaused, Size: 4, Frames: 7, Grant: first(1), Root: -1}, api.OK)
	// A frame that a domain has come by goes with it.
	b.destroy(1)
	b.left(13)
	b.freed(first(0) + 3)
	b.dom(1, api.Dom{}, api.ErrNone)
}

// P17.4

func TestAccessors(t *testing.T) {
	b := inStates(t)
	h := b.h
	if h.Machine() != h.Mmu().Machine() || h.Machine() != h.Machine() || h.Mmu() != h.Mmu() || h.Grants() != h.Grants() || h.Events() != h.Events() {
		t.Error("the parts change")
	}
	// Each is the one that the calls go to.
	b.want("Alloc", func() api.Errno { _, e := h.Events().Alloc(1, 0); return e }(), api.OK)
	b.want("Pin", h.Mmu().Pin(1, leaf(1), 1), api.OK)
	b.destroy(1)
	if p, _ := h.Events().Port(1, 0); p != (api.Port{}) || len(h.Mmu().Pins(1)) != 0 {
		t.Error("Destroy goes to other parts")
	}
	b.places(0, pairs(2, 3, 4, 5)...)
	b.places(2, api.Pair{Gpfn: 1, Mfn: first(2) + 1})
	for _, n := range append([]int{1, 3, 7}, noDomains...) {
		if h.Map(n) != nil {
			t.Errorf("Map(%d) of no domain", n)
		}
	}
}

func TestMapOfANumberThatIsBuiltAnew(t *testing.T) {
	b := four(t)
	old, other := b.h.Map(0), b.h.Map(1)
	b.destroy(0)
	if b.h.Map(0) != nil || len(old.List()) != 0 {
		t.Errorf("places of a domain that is gone: %v", old.List())
	}
	b.built(2, 0, api.OK)
	if b.h.Map(0) == old || b.h.Map(1) != other || b.h.Map(0) == other {
		t.Error("Map is not a new one, or another's has changed")
	}
	b.places(0, pairs(2, 3)...)
	if len(old.List()) != 0 {
		t.Errorf("the old map has %v", old.List())
	}
	old.Set(2, 3)
	b.places(0, pairs(2, 3)...)
}

func TestNoHypervisor(t *testing.T) {
	m := makeBed(t, 10).h.Machine()
	v, _ := view.New(m, nil)
	for _, h := range []*dom.Hyper{nil, new(dom.Hyper)} {
		for _, n := range append([]int{0, 1, 48, 49}, noDomains...) {
			if got, e := h.Build(n); got != 0 || e != api.ErrZero {
				t.Errorf("Build(%d) = %d, %v", n, got, e)
			}
			if d, e := h.Dom(n); d != (api.Dom{}) || e != api.ErrZero {
				t.Errorf("Dom(%d) = %v, %v", n, d, e)
			}
			for name, e := range map[string]api.Errno{
				"Pause": h.Pause(n), "Unpause": h.Unpause(n), "Destroy": h.Destroy(n), "Live": h.Live(n),
				"Ungrant": h.Ungrant(n, 0), "Unpin": h.Unpin(n, 0),
			} {
				if e != api.ErrZero {
					t.Errorf("%s(%d): %v", name, n, e)
				}
			}
			for _, v := range []*view.View{nil, new(view.View), v} {
				if got, e := h.Grant(v, n, 0, -1, true); got != 0 || e != api.ErrZero {
					t.Errorf("Grant(%d) = %d, %v", n, got, e)
				}
			}
			if h.Map(n) != nil {
				t.Errorf("Map(%d) is not nil", n)
			}
		}
		if h.Sweep() != 0 || h.Machine() != nil || h.Mmu() != nil || h.Grants() != nil || h.Events() != nil {
			t.Error("a hypervisor that no call made has something")
		}
	}
}

// P1: no arguments make a call panic, in whatever state the domains are.
func TestNumbersAtTheirEnds(t *testing.T) {
	b := inStates(t)
	numbers := []int{math.MinInt, -1, 0, 1, 2, 3, 7, 8, 15, 16, 31, 32, 255, 256, math.MaxInt}
	for _, v := range []*view.View{nil, new(view.View), b.view()} {
		for _, i := range numbers {
			for _, j := range numbers {
				b.h.Grant(v, i, j, i, false)
				b.h.Grant(v, i, j, j, true)
			}
		}
	}
	b.same(func() {
		for _, i := range numbers {
			for _, j := range numbers {
				if i != 0 || j != 0 {
					b.h.Ungrant(i, j)
				}
				b.h.Unpin(i, j)
			}
		}
	})
	for _, i := range numbers {
		b.h.Destroy(i)
		b.h.Pause(i)
		b.h.Unpause(i)
		b.h.Build(i)
		b.h.Sweep()
	}
}

// P5: two hypervisors have nothing in common.
func TestTwoHypervisors(t *testing.T) {
	b, c := four(t), four(t)
	c.same(func() {
		b.want("Unpause", b.h.Unpause(1), api.OK)
		b.mapped(1, 0, 1, true)
		b.destroy(0)
		p, _ := p2m.New(1)
		b.h.Grants().Join(0, 3, p)
		b.built(1, 3, api.OK)
	})
}
