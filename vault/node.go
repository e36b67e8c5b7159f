package vault

import (
	"keystore/api"
	"keystore/sha"
)

const (
	nodeSize  = 228
	leafKind  = 1
	innerKind = 2
)

// node: a node of the tree, as one call has it in memory.
type node struct {
	leaf    bool
	link    link // nowhere: the node is new
	entries []entry
}

// entry: of a leaf a key and its value, of an inner node a child's least key and the child.
type entry struct {
	key   string
	value string
	link  link
	child *node // nil: it was not looked at
}

// least: a node's least key.
func (n *node) least() string {
	if len(n.entries) == 0 {
		return ""
	}
	return n.entries[0].key
}

// way: the child of an inner node below which a key is: the last whose key is not above it, or the first.
func (n *node) way(k string) int {
	way := 0
	for i := 1; i < len(n.entries) && n.entries[i].key <= k; i++ {
		way = i
	}
	return way
}

// entryOf: where a leaf has a key, or would have it.
func (n *node) entryOf(k string) (int, bool) {
	i := 0
	for i < len(n.entries) && n.entries[i].key < k {
		i++
	}
	return i, i < len(n.entries) && n.entries[i].key == k
}

// text: a node's bytes (P6).
func (n *node) text() string {
	kind := innerKind
	if n.leaf {
		kind = leafKind
	}
	t := numberText(kind, 1) + numberText(len(n.entries), 1)
	for i := 0; i < len(n.entries); i++ {
		e := n.entries[i]
		t += numberText(len(e.key), 1) + e.key
		if n.leaf {
			t += numberText(len(e.value), 1) + e.value
		} else {
			t += numberText(e.link.place, 1) + e.link.digest
		}
	}
	return filled(t, nodeSize)
}

// nodeOf: the node that has these bytes; false: they are none (P6).
func nodeOf(t string) (*node, bool) {
	c := &cursor{text: t, right: len(t) == nodeSize}
	kind := c.number()
	count := c.number()
	n := &node{leaf: kind == leafKind}
	least := 1
	if !n.leaf {
		least = api.Half
	}
	if kind != leafKind && kind != innerKind || count < least || count > api.Full {
		return nil, false
	}
	for i := 0; i < count; i++ {
		e := c.entry(n.leaf)
		if i > 0 && e.key <= n.entries[i-1].key {
			return nil, false
		}
		n.entries = append(n.entries, e)
	}
	c.noughts()
	if !c.right {
		return nil, false
	}
	return n, true
}

// cursor: a text that is read from the left. right: all that was read was there and as it must be.
type cursor struct {
	text  string
	at    int
	right bool
}

// number: the next byte.
func (c *cursor) number() int {
	t := c.take(1)
	if len(t) == 0 {
		return 0
	}
	return int(t[0])
}

// take: the next so many bytes.
func (c *cursor) take(size int) string {
	if size > len(c.text)-c.at {
		c.right = false
		return ""
	}
	t := c.text[c.at : c.at+size]
	c.at += size
	return t
}

// word: a length within these bounds, and a text of this length.
func (c *cursor) word(least int, most int) string {
	size := c.number()
	if size < least || size > most {
		c.right = false
		return ""
	}
	return c.take(size)
}

// entry: the next entry.
func (c *cursor) entry(leaf bool) entry {
	e := entry{}
	e.key = c.word(1, api.MaxKey)
	if leaf {
		e.value = c.word(0, api.MaxValue)
		return e
	}
	e.link.place = c.number()
	e.link.digest = c.take(sha.Size)
	return e
}

// noughts: there is nothing else up to the end.
func (c *cursor) noughts() {
	for i := c.at; i < len(c.text); i++ {
		if c.text[i] != 0 {
			c.right = false
		}
	}
}
