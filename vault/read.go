package vault

import "keystore/api"

// Get tells a key's value (P10).
func (v *Vault) Get(k string) (string, api.Errno) {
	if !v.open {
		return "", api.ErrClosed
	}
	if !isKey(k) {
		return "", api.ErrKey
	}
	i, there := v.changeOf(k)
	if !there {
		return v.find(k)
	}
	if v.changes[i].gone {
		return "", api.ErrNone
	}
	return v.changes[i].value, api.OK
}

// find: a key's value in the tree, without the transaction.
func (v *Vault) find(k string) (string, api.Errno) {
	w := &view{vault: v}
	n, e := w.root()
	// It ends: each step looks at a node more.
	for e == api.OK && n != nil && !n.leaf {
		i := n.way(k)
		n, e = w.child(n, i)
	}
	if e != api.OK {
		return "", e
	}
	if n == nil {
		return "", api.ErrNone
	}
	i, there := n.entryOf(k)
	if !there {
		return "", api.ErrNone
	}
	return n.entries[i].value, api.OK
}

// Scan tells the keys from lo to hi, and their values (P10).
func (v *Vault) Scan(lo string, hi string) ([]api.Pair, api.Errno) {
	if !v.open {
		return nil, api.ErrClosed
	}
	if lo > hi {
		return nil, api.OK
	}
	s := &scan{view: view{vault: v}, lo: lo, hi: hi}
	n, e := s.view.root()
	if e == api.OK && n != nil {
		e = s.gather(n)
	}
	if e != api.OK {
		return nil, e
	}
	return s.behind(v.changes), api.OK
}

// scan: a Scan under way, and what it has found in the tree.
type scan struct {
	view   view
	lo, hi string
	found  []api.Pair
}

// gather: the pairs below a node that are asked for.
func (s *scan) gather(n *node) api.Errno {
	for i := 0; i < len(n.entries) && n.entries[i].key <= s.hi; i++ {
		e := n.entries[i]
		if n.leaf && e.key >= s.lo {
			s.found = append(s.found, api.Pair{Key: e.key, Value: e.value})
		}
		// A child all of whose keys are below lo is not looked at: its neighbour's least key tells.
		if n.leaf || i+1 < len(n.entries) && n.entries[i+1].key <= s.lo {
			continue
		}
		child, err := s.view.child(n, i)
		if err == api.OK {
			err = s.gather(child)
		}
		if err != api.OK {
			return err
		}
	}
	return api.OK
}

// behind: what was found, as it would be behind the changes.
func (s *scan) behind(changes []change) []api.Pair {
	var l []api.Pair
	at := 0
	for i := 0; i < len(changes); i++ {
		c := changes[i]
		if c.key < s.lo || c.key > s.hi {
			continue
		}
		for at < len(s.found) && s.found[at].Key < c.key {
			l = append(l, s.found[at])
			at++
		}
		if at < len(s.found) && s.found[at].Key == c.key {
			at++
		}
		if !c.gone {
			l = append(l, api.Pair{Key: c.key, Value: c.value})
		}
	}
	for ; at < len(s.found); at++ {
		l = append(l, s.found[at])
	}
	return l
}
