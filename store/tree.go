package store

import (
	"slices"

	"tenement/api"
	"tenement/path"
)

const root = "/"

// tree is nodes by their paths. Each stands there with all above it. What a node has is never changed in place, so that a tree that is copied shares it.
type tree map[string]node

// node is a node as it is.
type node struct {
	names []string // of its path
	value []byte
	entries
}

// entries are a node's permissions: at least one, and of each domain at most one. They are all that is asked of a node as it was.
type entries []api.Perm

// witness is a node, as it is or as it was, of which a domain may know if it may read it.
type witness interface {
	mayRead(dom int) bool
}

// newTree is the root alone, for domain 0 alone.
func newTree() tree {
	return tree{root: {entries: entries{{Dom: 0}}}}
}

// each tells a closure a node and all below it, each ahead of what is below it, names rising. The closure may change the tree.
func (t tree) each(top node, tell func(name string, n node)) {
	var below []node
	for _, n := range t {
		if n.isUnder(top) {
			below = append(below, n)
		}
	}
	// Held against each other name by name: as texts /a-b would come between /a and /a/b.
	slices.SortFunc(below, func(a, b node) int { return slices.Compare(a.names, b.names) })
	for _, n := range below {
		tell(pathOf(n.names), n)
	}
}

// nearest is how many of a path's names lead to a node that is there.
func (t tree) nearest(names []string) int {
	n := len(names)
	for n > 0 {
		if _, ok := t[pathOf(names[:n])]; ok {
			return n
		}
		n--
	}
	return 0 // The root is always there.
}

// isUnder tells whether a node is another one, or below it.
func (n node) isUnder(top node) bool {
	return len(n.names) >= len(top.names) && slices.Equal(n.names[:len(top.names)], top.names)
}

// pathOf is the path of names that came of one.
func pathOf(names []string) string {
	name, _ := path.Join(names)
	return name
}

func (l entries) mayRead(dom int) bool {
	read, _ := path.May(l, dom)
	return read
}

func (l entries) mayWrite(dom int) bool {
	_, write := path.May(l, dom)
	return write
}

// owner is the domain whose node it is.
func (l entries) owner() int { return l[0].Dom }

// inherited is the entries of a node that a domain makes right below one with these. There are as many as domains at most, which is as many as may be.
func (l entries) inherited(dom int) entries {
	below := entries{{Dom: dom, Read: l[0].Read, Write: l[0].Write}}
	for _, p := range l[1:] {
		if p.Dom != dom {
			below = append(below, p)
		}
	}
	return below
}
