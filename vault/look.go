package vault

import (
	"keystore/api"
	"keystore/sha"
)

const (
	firstPlace = 2  // of a page: the slots are ahead
	mostLooks  = 48 // nodes that one call looks at
)

// view: what one call has looked at; the nodes themselves hang at their parents (P14).
type view struct {
	vault *Vault
	looks int
}

// root: the tree's root; nil: there is none.
func (w *view) root() (*node, api.Errno) {
	if w.vault.root.place == 0 {
		return nil, api.OK
	}
	return w.look(w.vault.root)
}

// child: the i-th child of an inner node. One that hangs there already is known, or new: it is not read.
func (w *view) child(n *node, i int) (*node, api.Errno) {
	if i < 0 || i >= len(n.entries) {
		return nil, api.ErrTampered
	}
	e := n.entries[i]
	if e.child != nil {
		return e.child, api.OK
	}
	child, err := w.look(e.link)
	if err != api.OK {
		return nil, err
	}
	if child.least() != e.key || len(child.entries) < api.Half {
		return nil, api.ErrTampered
	}
	n.entries[i].child = child
	return child, api.OK
}

// look: the node that lies there.
func (w *view) look(l link) (*node, api.Errno) {
	v := w.vault
	if l.place < firstPlace || l.place >= v.disk.Blocks() || w.looks >= mostLooks {
		return nil, api.ErrTampered
	}
	w.looks++
	block, ok := v.disk.Read(l.place)
	if !ok {
		return nil, v.down()
	}
	if sha.Of(block) != l.digest {
		return nil, api.ErrTampered
	}
	t, ok := v.keys.openPage(block, l.place)
	if !ok {
		return nil, api.ErrTampered
	}
	n, ok := nodeOf(t)
	if !ok {
		return nil, api.ErrTampered
	}
	n.link = l
	return n, api.OK
}
