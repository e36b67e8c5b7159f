package vault

import "keystore/api"

// work: the tree of a Commit under way, in memory. The nodes are this call's own: if it fails, nothing has to be turned back.
type work struct {
	view     view
	top      *node // the root; nil: there is none
	replaced []int // places of nodes that the new tree does not have
	changed  bool
}

// apply: all changes, one behind the other.
func (w *work) apply(changes []change) api.Errno {
	if len(changes) == 0 {
		return api.OK
	}
	top, e := w.view.root()
	if e != api.OK {
		return e
	}
	w.top = top
	for i := 0; i < len(changes); i++ {
		c := changes[i]
		if c.gone {
			e = w.remove(c.key)
		} else {
			e = w.put(c.key, c.value)
		}
		if e != api.OK {
			return e
		}
	}
	return api.OK
}

// renew: a node is going to be another: where it lay, it is replaced.
func (w *work) renew(n *node) {
	if n.link.place != 0 {
		w.replaced = append(w.replaced, n.link.place)
	}
	n.link = link{}
}

// put: PUT (P12).
func (w *work) put(k string, s string) api.Errno {
	w.changed = true
	if w.top == nil {
		w.top = &node{leaf: true, entries: []entry{{key: k, value: s}}}
		return api.OK
	}
	right, e := w.putBelow(w.top, k, s)
	if e != api.OK {
		return e
	}
	if right != nil {
		w.top = &node{entries: []entry{entryFor(w.top), entryFor(right)}}
	}
	return api.OK
}

// putBelow: PUT into a node and what is below it. If it had six entries then: the node that stands to its right from now on.
func (w *work) putBelow(n *node, k string, s string) (*node, api.Errno) {
	w.renew(n)
	if n.leaf {
		n.set(k, s)
		return n.split(), api.OK
	}
	i := n.way(k)
	child, e := w.view.child(n, i)
	if e != api.OK {
		return nil, e
	}
	right, e := w.putBelow(child, k, s)
	if e != api.OK {
		return nil, e
	}
	n.entries[i] = entryFor(child)
	if right != nil {
		n.entries = with(n.entries, i+1, entryFor(right))
	}
	return n.split(), api.OK
}

// remove: DELETE (P12).
func (w *work) remove(k string) api.Errno {
	if w.top == nil {
		return api.OK
	}
	gone, e := w.removeBelow(w.top, k)
	if e != api.OK || !gone {
		return e
	}
	w.changed = true
	if len(w.top.entries) == 0 {
		w.top = nil
		return api.OK
	}
	if w.top.leaf || len(w.top.entries) > 1 {
		return api.OK
	}
	child, e := w.view.child(w.top, 0)
	if e != api.OK {
		return e
	}
	w.top = child
	return api.OK
}

// removeBelow: DELETE out of a node and what is below it; false: the key is not there, and nothing is new.
func (w *work) removeBelow(n *node, k string) (bool, api.Errno) {
	if n.leaf {
		i, there := n.entryOf(k)
		if there {
			w.renew(n)
			n.entries = without(n.entries, i)
		}
		return there, api.OK
	}
	i := n.way(k)
	child, e := w.view.child(n, i)
	if e != api.OK {
		return false, e
	}
	gone, e := w.removeBelow(child, k)
	if e != api.OK || !gone {
		return false, e
	}
	w.renew(n)
	if len(child.entries) < api.Half {
		e = w.mend(n, i)
	} else {
		n.entries[i] = entryFor(child)
	}
	return e == api.OK, e
}

// mend: the i-th child of a node is too small: MENDED (P12).
func (w *work) mend(n *node, i int) api.Errno {
	at := i
	if i == len(n.entries)-1 {
		at = i - 1
	}
	left, e := w.view.child(n, at)
	if e != api.OK {
		return e
	}
	right, e := w.view.child(n, at+1)
	if e != api.OK {
		return e
	}
	if left.leaf != right.leaf {
		return api.ErrTampered
	}
	w.renew(left)
	w.renew(right)
	if len(left.entries)+len(right.entries) <= api.Full {
		left.entries = joined(left.entries, right.entries)
		n.entries = without(n.entries, at+1)
		n.entries[at] = entryFor(left)
		return api.OK
	}
	even(left, right, at == i)
	n.entries[at] = entryFor(left)
	n.entries[at+1] = entryFor(right)
	return api.OK
}

// even: of two neighbours one gets the other's nearest entry. Both have entries: together they have more than five.
func even(left *node, right *node, toLeft bool) {
	if toLeft {
		left.entries = joined(left.entries, right.entries[:1])
		right.entries = without(right.entries, 0)
		return
	}
	last := len(left.entries) - 1
	right.entries = joined(left.entries[last:], right.entries)
	left.entries = without(left.entries, last)
}

// set: a leaf's key has this value from now on.
func (n *node) set(k string, s string) {
	i, there := n.entryOf(k)
	if there {
		n.entries[i].value = s
		return
	}
	n.entries = with(n.entries, i, entry{key: k, value: s})
}

// split: a node of six entries keeps three; the other three are a node to its right.
func (n *node) split() *node {
	if len(n.entries) <= api.Full {
		return nil
	}
	half := len(n.entries) / 2
	right := &node{leaf: n.leaf, entries: joined(n.entries[half:], nil)}
	n.entries = joined(n.entries[:half], nil)
	return right
}

// entryFor: what a parent says of a child that is in memory. If it is new, it lies nowhere yet.
func entryFor(child *node) entry {
	return entry{key: child.least(), link: child.link, child: child}
}

// with: the entries, and one more as the i-th.
func with(l []entry, i int, e entry) []entry {
	ahead := joined(l[:i], []entry{e})
	return joined(ahead, l[i:])
}

// without: the entries but the i-th.
func without(l []entry, i int) []entry {
	return joined(l[:i], l[i+1:])
}

// joined: the one entries and the others behind them, as a fresh list: no two nodes share memory.
func joined(l []entry, m []entry) []entry {
	var all []entry
	all = append(all, l...)
	return append(all, m...)
}
