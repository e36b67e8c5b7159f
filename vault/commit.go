package vault

import (
	"keystore/api"
	"keystore/sha"
)

// Commit does the transaction (P11).
func (v *Vault) Commit() api.Errno {
	if !v.open {
		return api.ErrClosed
	}
	w := &work{view: view{vault: v}}
	e := w.apply(v.changes)
	if e != api.OK {
		return e
	}
	if w.changed {
		e = v.save(w)
	}
	if e != api.OK {
		return e
	}
	v.changes = nil
	return api.OK
}

// save: the new tree is written, if it may be, and is the vault's.
func (v *Vault) save(w *work) api.Errno {
	count := newNodes(w.top)
	e := v.room(count)
	if e != api.OK {
		return e
	}
	root := link{}
	if w.top != nil {
		e = v.writeNew(w.top)
		if e != api.OK {
			return e
		}
		root = w.top.link
	}
	ok := v.disk.Flush()
	if !ok {
		return v.down()
	}
	v.root = root
	e = v.advance(v.version + 1)
	if e != api.OK {
		return e
	}
	// Not earlier: up to here the disk's tree was the old one.
	for i := 0; i < len(w.replaced); i++ {
		v.use(w.replaced[i], false)
	}
	return api.OK
}

// room: may so many new nodes be written?
func (v *Vault) room(count int) api.Errno {
	if v.version >= v.disk.Ceiling() {
		return api.ErrCounter
	}
	if v.sealed+count > api.MaxPages {
		return api.ErrSession
	}
	free := v.freePlaces()
	if len(free) < count {
		return api.ErrSpace
	}
	return api.OK
}

// newNodes: how many of a tree's nodes are new. Below one that is not, none is.
func newNodes(n *node) int {
	if n == nil || n.link.place != 0 {
		return 0
	}
	count := 1
	for i := 0; i < len(n.entries); i++ {
		count += newNodes(n.entries[i].child)
	}
	return count
}

// writeNew: the new nodes below a new node, and this one behind them: it says where they lie.
func (v *Vault) writeNew(n *node) api.Errno {
	for i := 0; i < len(n.entries); i++ {
		child := n.entries[i].child
		if child == nil || child.link.place != 0 {
			continue
		}
		e := v.writeNew(child)
		if e != api.OK {
			return e
		}
		n.entries[i].link = child.link
	}
	return v.writePage(n)
}

// writePage: a new node lies at the lowest free place from now on.
func (v *Vault) writePage(n *node) api.Errno {
	free := v.freePlaces()
	if len(free) == 0 {
		return api.ErrSpace
	}
	place := free[0]
	v.sealed++
	bytes := n.text()
	t := v.keys.pageText(v.session, v.sealed, place, bytes)
	ok := v.disk.Write(place, t)
	if !ok {
		return v.down()
	}
	v.use(place, true)
	n.link = link{place: place, digest: sha.Of(t)}
	return api.OK
}

// freePlaces: the places at which no node lies, rising.
func (v *Vault) freePlaces() []int {
	var l []int
	for p := firstPlace; p < v.disk.Blocks() && p < len(v.used); p++ {
		if !v.used[p] {
			l = append(l, p)
		}
	}
	return l
}

// use: a node lies at a place from now on, or does not any more.
func (v *Vault) use(place int, used bool) {
	if place >= 0 && place < len(v.used) {
		v.used[place] = used
	}
}

// isUsed: does a node lie at a place?
func (v *Vault) isUsed(place int) bool {
	return place >= 0 && place < len(v.used) && v.used[place]
}
