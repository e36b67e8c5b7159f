package vault

import "keystore/api"

// Open opens the vault that is there (P13).
func (v *Vault) Open(pass string) api.Errno {
	c, e := v.count(pass)
	if e != api.OK {
		return e
	}
	w, e := v.take(pass, c)
	if e == api.OK {
		e = v.lookAtAll()
	}
	if e == api.OK && c+2 > v.disk.Ceiling() {
		e = api.ErrCounter
	}
	if e != api.OK {
		v.forget()
		return e
	}
	return v.begin(c, w)
}

// take: the version of the slot that is there for the counter's number; salt, keys and root are the slot's. The next version goes ahead: where it is there, the counter was about to rise to it.
func (v *Vault) take(pass string, c int) (int, api.Errno) {
	even, ok := v.disk.Read(0)
	if !ok {
		return 0, v.down()
	}
	odd, ok := v.disk.Read(1)
	if !ok {
		return 0, v.down()
	}
	for w := c + 1; w >= c; w-- {
		block := even
		if w%2 == 1 {
			block = odd
		}
		ok = v.takeSlot(pass, block, w)
		if ok {
			return w, api.OK
		}
	}
	return 0, api.ErrTampered
}

// takeSlot: is a slot of this version, with a right tag under this password, in a block? Then salt, keys and root are its own.
func (v *Vault) takeSlot(pass string, block string, version int) bool {
	salt, root := slotOf(block)
	k := keysOf(pass, salt)
	slot := k.slotText(salt, version, root)
	if !isSlot(block, slot) {
		return false
	}
	v.salt = salt
	v.keys = k
	if root.place != 0 {
		v.root = root
	}
	return true
}

// lookAtAll: all nodes of the tree are looked at, and their places are used.
func (v *Vault) lookAtAll() api.Errno {
	s := &survey{view: view{vault: v}}
	n, e := s.view.root()
	if e != api.OK || n == nil {
		return e
	}
	return s.below(n, 1)
}

// survey: all nodes, from the left, as far as they were looked at.
type survey struct {
	view  view
	depth int    // of the leaves; 0: none was met
	last  string // the last key that was met; a key is never empty
}

// below: a node that was looked at, and all that is below it. It ends: no place is met twice.
func (s *survey) below(n *node, depth int) api.Errno {
	v := s.view.vault
	v.use(n.link.place, true)
	if n.leaf {
		return s.leaf(n, depth)
	}
	for i := 0; i < len(n.entries); i++ {
		if v.isUsed(n.entries[i].link.place) {
			return api.ErrTampered
		}
		child, e := s.view.child(n, i)
		if e == api.OK {
			e = s.below(child, depth+1)
		}
		if e != api.OK {
			return e
		}
	}
	return api.OK
}

// leaf: a leaf is as deep as the one ahead, and its keys are above those of that one.
func (s *survey) leaf(n *node, depth int) api.Errno {
	if s.depth != 0 && depth != s.depth {
		return api.ErrTampered
	}
	s.depth = depth
	for i := 0; i < len(n.entries); i++ {
		if n.entries[i].key <= s.last {
			return api.ErrTampered
		}
		s.last = n.entries[i].key
	}
	return api.OK
}
