package store

import (
	"bytes"
	"slices"

	"tenement/api"
	"tenement/path"
)

// draft is a tree that is worked at, and what has changed in it.
type draft struct {
	tree    tree
	changed []string           // paths, in the order of the nodes' first changes: a later one of the same node tells nobody anything new
	was     map[string]entries // of each of those: none of a node that is there, the last ones of a node that is gone
}

func newDraft(t tree) draft {
	return draft{tree: t, was: map[string]entries{}}
}

// write lays a value into a node, or makes it.
func (d *draft) write(dom int, name string, value []byte) api.Errno {
	n, ok := d.tree[name]
	if !ok {
		return d.grow(dom, name, value)
	}
	if !n.mayWrite(dom) {
		return api.ErrPerm
	}
	n.value = bytes.Clone(value)
	d.put(n)
	return api.OK
}

// makeNode makes a node that is not there.
func (d *draft) makeNode(dom int, name string) api.Errno {
	n, ok := d.tree[name]
	if !ok {
		return d.grow(dom, name, nil)
	}
	if !n.mayWrite(dom) {
		return api.ErrPerm
	}
	return api.OK
}

// grow makes a node and all on the way to it that are not there.
func (d *draft) grow(dom int, name string, value []byte) api.Errno {
	names, _, _ := path.Parse(name)
	there := d.tree.nearest(names)
	n := d.tree[pathOf(names[:there])]
	if !n.mayWrite(dom) {
		return api.ErrPerm
	}
	if len(d.tree)+len(names)-there > api.MaxNodes {
		return api.ErrFull
	}
	for there < len(names) {
		there++
		n = node{names: names[:there], entries: n.inherited(dom)}
		if there == len(names) {
			n.value = bytes.Clone(value)
		}
		d.put(n)
	}
	return api.OK
}

// remove takes a node out, with all below it.
func (d *draft) remove(dom int, name string) api.Errno {
	top, ok := d.tree[name]
	if !ok {
		return api.ErrNone
	}
	if !top.mayWrite(dom) {
		return api.ErrPerm
	}
	d.tree.each(top, func(name string, n node) {
		d.note(name, n.entries)
		delete(d.tree, name)
	})
	return api.OK
}

// setPerms gives a node other entries.
func (d *draft) setPerms(dom int, name string, l []api.Perm) api.Errno {
	n, ok := d.tree[name]
	if !ok {
		return api.ErrNone
	}
	next := entries(slices.Clone(l))
	if dom != 0 && (dom != n.owner() || dom != next.owner()) {
		return api.ErrPerm
	}
	n.entries = next
	d.put(n)
	return api.OK
}

// put lays a node into the tree.
func (d *draft) put(n node) {
	name := pathOf(n.names)
	d.tree[name] = n
	d.note(name, nil)
}

// note lists a node as changed, and what is left of it, if it goes.
func (d *draft) note(name string, was entries) {
	if _, ok := d.was[name]; !ok {
		d.changed = append(d.changed, name)
	}
	d.was[name] = was
}

// witness is a changed node as it is, or, if it is gone, as it was last.
func (d *draft) witness(name string) witness {
	if n, ok := d.tree[name]; ok {
		return n
	}
	return d.was[name]
}
