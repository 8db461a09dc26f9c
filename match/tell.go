package match

import (
	"slices"

	"paddock/api"
)

// Worst tells how many events a command can make at most (P19.8).
func (w *World) Worst(k api.CommandKind) int {
	if w.absent() {
		return 0
	}
	switch k {
	case api.CmdUpdate, api.CmdForget:
		return w.fences.Len()
	case api.CmdFence, api.CmdUnfence:
		return w.book.Len()
	}
	return 0
}

// HasObject tells whether an object is in the table (P19.9).
func (w *World) HasObject(object uint32) bool {
	if w.absent() {
		return false
	}
	_, there := w.book.Get(object)
	return there
}

// HasFence tells whether a fence is in the table (P19.9).
func (w *World) HasFence(fence uint32) bool {
	if w.absent() {
		return false
	}
	_, there := w.fences.Get(fence)
	return there
}

// Objects tells them, rising (P19.9).
func (w *World) Objects() []api.Object {
	if w.absent() {
		return nil
	}
	return slices.Collect(w.book.All())
}

// Fences tells them, rising (P19.9).
func (w *World) Fences() []api.Fence {
	if w.absent() {
		return nil
	}
	var list []api.Fence
	for _, f := range w.fences.All() {
		told := f.Fence
		told.Shape = cloned(told.Shape)
		list = append(list, told)
	}
	return list
}

// Dues tells what will be due, in order (P19.9).
func (w *World) Dues() []api.Due {
	if w.absent() {
		return nil
	}
	return slices.Collect(w.dues.All())
}
