package tree

import (
	"paddock/api"
	"paddock/point"
)

// entry is a box with its number.
type entry struct {
	id  uint32
	box api.Box
}

// node is a part of the tree: its own box, and those that hang on it, by number. Once made it does not change: putting in and taking out make new nodes from the root down to where it is done, so that a walk goes on over what it began with. A nil node is a part without a box.
type node struct {
	entry
	low, high *node   // those with lesser numbers, those with greater ones
	around    api.Box // the least box around all of the part
	depth     int
}

// over is a node over two parts.
func over(e entry, low, high *node) *node {
	n := &node{entry: e, low: low, high: high, around: e.box}
	n.depth = 1 + max(low.deep(), high.deep())
	if low != nil {
		n.around = point.Join(n.around, low.around)
	}
	if high != nil {
		n.around = point.Join(n.around, high.around)
	}
	return n
}

// level is a node over two parts whose depths may be two apart, behind one putting in or taking out; then the deeper one hands over, so that no two parts side by side are more than one apart.
func level(e entry, low, high *node) *node {
	switch {
	case low.deep() > high.deep()+1:
		return fromLow(e, low, high)
	case high.deep() > low.deep()+1:
		return fromHigh(e, low, high)
	}
	return over(e, low, high)
}

// fromLow hands over from the lower part to the higher one.
func fromLow(e entry, low, high *node) *node {
	if mid := low.high; mid.deep() > low.low.deep() {
		return over(mid.entry, over(low.entry, low.low, mid.low), over(e, mid.high, high))
	}
	return over(low.entry, low.low, over(e, low.high, high))
}

// fromHigh hands over from the higher part to the lower one.
func fromHigh(e entry, low, high *node) *node {
	if mid := high.low; mid.deep() > high.high.deep() {
		return over(mid.entry, over(e, low, mid.low), over(high.entry, mid.high, high.high))
	}
	return over(high.entry, over(e, low, high.low), high.high)
}

// deep is how many boxes stand on the longest way down.
func (n *node) deep() int {
	if n == nil {
		return 0
	}
	return n.depth
}

// find is the node of a number, nil if there is none.
func (n *node) find(id uint32) *node {
	for n != nil && n.id != id {
		if id < n.id {
			n = n.low
		} else {
			n = n.high
		}
	}
	return n
}

// first is the node of the least number.
func (n *node) first() *node {
	for n.low != nil {
		n = n.low
	}
	return n
}

// with is the part with one more, whose number it does not have.
func (n *node) with(e entry) *node {
	switch {
	case n == nil:
		return over(e, nil, nil)
	case e.id < n.id:
		return level(n.entry, n.low.with(e), n.high)
	}
	return level(n.entry, n.low, n.high.with(e))
}

// without is the part without a number, which it has.
func (n *node) without(id uint32) *node {
	switch {
	case id < n.id:
		return level(n.entry, n.low.without(id), n.high)
	case id > n.id:
		return level(n.entry, n.low, n.high.without(id))
	case n.high == nil:
		return n.low
	}
	next := n.high.first()
	return level(next.entry, n.low, n.high.without(next.id))
}

// tell hands out the nodes whose boxes are wanted, rising by number, and is true if none of them was the last that was asked for. A box that is wanted is so because of a point that the boxes around it have too: where the box around a part is not wanted, none in it is.
func (n *node) tell(wanted func(api.Box) bool, yield func(*node) bool) bool {
	if n == nil || !wanted(n.around) {
		return true
	}
	return n.low.tell(wanted, yield) && (!wanted(n.box) || yield(n)) && n.high.tell(wanted, yield)
}
