package event

import (
	"tenement/api"
)

// ports is the list of a domain's ports. A free one is the zero one, so that nothing of what it was is left.
type ports [api.MaxPorts]api.Port

// take makes the free port of the least number what is asked, if there is one.
func (l *ports) take(p api.Port) (int, api.Errno) {
	for n := range l {
		if l[n].Kind == api.PFree {
			l[n] = p
			return n, api.OK
		}
	}
	return 0, api.ErrFull
}

// virq is the port of a virtual interrupt, if there is one.
func (l *ports) virq(virq int) (int, bool) {
	for n, p := range l {
		if p.Kind == api.PVirq && p.Virq == virq {
			return n, true
		}
	}
	return 0, false
}

// pending tells the ports whose bit is set, rising.
func (l *ports) pending() []int {
	var set []int
	for n, p := range l {
		if p.Pending {
			set = append(set, n)
		}
	}
	return set
}
