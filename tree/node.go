package tree

import (
	"bytes"
	"sort"

	"tideline/api"
)

// How a node's page is laid: its kind, how many entries it has, and each: how many bytes key and value have, and these.
const (
	kindLeaf  = 1
	kindInner = 2
	headSize  = 3
	entrySize = 4
	childSize = 4
)

// node is a leaf, of keys and values, or an inner node, of keys and children's pages.
// A child's key is not above those below it, and above those of the children ahead; that of the first child may be any.
type node struct {
	leaf bool
	keys [][]byte
	vals [][]byte
}

func put2(b []byte, v int) { b[0], b[1] = byte(v>>8), byte(v) }

func get2(b []byte) int { return int(b[0])<<8 | int(b[1]) }

// child is a page's number as a value.
func child(p int) []byte {
	return []byte{byte(p >> 24), byte(p >> 16), byte(p >> 8), byte(p)}
}

// page is the number of a child.
func (n *node) page(i int) int {
	b := n.vals[i]
	return get2(b)<<16 | get2(b[2:])
}

// size is how many bytes it has as a page.
func (n *node) size() int {
	s := headSize
	for i, k := range n.keys {
		s += entrySize + len(k) + len(n.vals[i])
	}
	return s
}

func (n *node) fits() bool { return n.size() <= api.Page }

// bytes is the page of a node that fits.
func (n *node) bytes() []byte {
	b := make([]byte, api.Page)
	b[0] = kindInner
	if n.leaf {
		b[0] = kindLeaf
	}
	put2(b[1:], len(n.keys))
	at := headSize
	for i, k := range n.keys {
		put2(b[at:], len(k))
		put2(b[at+2:], len(n.vals[i]))
		at += entrySize
		at += copy(b[at:], k)
		at += copy(b[at:], n.vals[i])
	}
	return b
}

// read is the node of a page; what is none is thrown.
func read(b []byte) *node {
	n := &node{leaf: b[0] == kindLeaf}
	if b[0] != kindLeaf && b[0] != kindInner {
		need(api.ErrBroken)
	}
	count := get2(b[1:])
	if count == 0 || count > len(b)/entrySize {
		need(api.ErrBroken)
	}
	n.keys = make([][]byte, 0, count+1)
	n.vals = make([][]byte, 0, count+1)
	at := headSize
	for range count {
		if at+entrySize > len(b) {
			need(api.ErrBroken)
		}
		k := at + entrySize
		v := k + get2(b[at:])
		end := v + get2(b[at+2:])
		if end > len(b) || !n.leaf && end-v != childSize {
			need(api.ErrBroken)
		}
		n.keys = append(n.keys, b[k:v:v])
		n.vals = append(n.vals, b[v:end:end])
		at = end
	}
	return n
}

// search is the first place whose key is not below.
func (n *node) search(key []byte) int {
	return sort.Search(len(n.keys), func(i int) bool { return bytes.Compare(n.keys[i], key) >= 0 })
}

// has tells whether a place has just that key.
func (n *node) has(i int, key []byte) bool { return i < len(n.keys) && bytes.Equal(n.keys[i], key) }

// way is the place of the child below which a key is.
func (n *node) way(key []byte) int {
	return sort.Search(len(n.keys)-1, func(i int) bool { return bytes.Compare(n.keys[i+1], key) > 0 })
}

func inserted(l [][]byte, i int, b []byte) [][]byte {
	l = append(l, nil)
	copy(l[i+1:], l[i:])
	l[i] = b
	return l
}

func removed(l [][]byte, i int) [][]byte {
	copy(l[i:], l[i+1:])
	return l[: len(l)-1 : len(l)-1]
}

func (n *node) insert(i int, key, val []byte) {
	n.keys, n.vals = inserted(n.keys, i, key), inserted(n.vals, i, val)
}

func (n *node) remove(i int) {
	n.keys, n.vals = removed(n.keys, i), removed(n.vals, i)
}

// split takes what stands from a place on into a node of its own.
func (n *node) split(i int) *node {
	right := &node{leaf: n.leaf, keys: append([][]byte(nil), n.keys[i:]...), vals: append([][]byte(nil), n.vals[i:]...)}
	n.keys, n.vals = n.keys[:i:i], n.vals[:i:i]
	return right
}

// middle is the place at which both halves are as much alike in size as can be.
func (n *node) middle() int {
	total := n.size() - headSize
	best, least, left := 1, total, 0
	for i, k := range n.keys[:len(n.keys)-1] {
		left += entrySize + len(k) + len(n.vals[i])
		far := max(left, total-left)
		if far < least {
			best, least = i+1, far
		}
	}
	return best
}
