package vault

import "keystore/api"

// change: the value that a key is to have; gone: it is to be deleted.
type change struct {
	key, value string
	gone       bool
}

// Put and Delete change the transaction (P9).
func (v *Vault) Put(k string, s string) api.Errno {
	if !v.open {
		return api.ErrClosed
	}
	if !isKey(k) {
		return api.ErrKey
	}
	if len(s) > api.MaxValue {
		return api.ErrValue
	}
	return v.note(change{key: k, value: s})
}

func (v *Vault) Delete(k string) api.Errno {
	if !v.open {
		return api.ErrClosed
	}
	if !isKey(k) {
		return api.ErrKey
	}
	return v.note(change{key: k, gone: true})
}

// Abort forgets the transaction (P9).
func (v *Vault) Abort() api.Errno {
	if !v.open {
		return api.ErrClosed
	}
	v.changes = nil
	return api.OK
}

// isKey: may this be a key?
func isKey(k string) bool {
	return len(k) >= 1 && len(k) <= api.MaxKey
}

// note: the transaction says this of the change's key, whatever it said of it before.
func (v *Vault) note(c change) api.Errno {
	i, there := v.changeOf(c.key)
	if there {
		v.changes[i] = c
		return api.OK
	}
	if len(v.changes) >= api.MaxOps {
		return api.ErrOps
	}
	var l []change
	l = append(l, v.changes[:i]...)
	l = append(l, c)
	l = append(l, v.changes[i:]...)
	v.changes = l
	return api.OK
}

// changeOf: where the transaction has a key, or would have it.
func (v *Vault) changeOf(k string) (int, bool) {
	i := 0
	for i < len(v.changes) && v.changes[i].key < k {
		i++
	}
	return i, i < len(v.changes) && v.changes[i].key == k
}
