package model

import (
	"cmp"
	"slices"

	"davit/api"
)

// list is one of a state's lists, by rising numbers: where it stands, what number a thing of it has, and how many it may have.
type list[T any] struct {
	things *[]T
	number func(one T) int
	most   int
}

// threads is the list of threads; those below are the others.
func (s *State) threads() list[Thread] {
	return list[Thread]{&s.Threads, func(one Thread) int { return one.Id }, api.MaxThreads}
}

func (s *State) timers() list[Timer] {
	return list[Timer]{&s.Timers, func(one Timer) int { return one.Id }, api.MaxTimers}
}

func (s *State) irqs() list[Irq] {
	return list[Irq]{&s.Irqs, func(one Irq) int { return one.Id }, api.MaxIrqs}
}

func (s *State) works() list[int] {
	return list[int]{&s.Works, itself, api.MaxWorks}
}

func (s *State) calls() list[int] {
	return list[int]{&s.Calls, itself, api.MaxCalls}
}

func (s *State) objs() list[int] {
	return list[int]{&s.Objs, itself, api.MaxObjs}
}

// itself is the number of a thing that is nothing but a number.
func itself(id int) int {
	return id
}

// place is where the thing of a number stands, or would stand, and whether it is there.
func place[T any](l list[T], id int) (int, bool) {
	return slices.BinarySearchFunc(*l.things, id, func(one T, id int) int {
		return cmp.Compare(l.number(one), id)
	})
}

// find is the thing of a number itself, so that what is written there is kept; nil, if there is none.
func find[T any](l list[T], id int) *T {
	at, in := place(l, id)
	if !in {
		return nil
	}
	return &(*l.things)[at]
}

// has is whether there is a thing of a number.
func has[T any](l list[T], id int) bool {
	_, in := place(l, id)
	return in
}

// put lets a thing be in a list that has none of its number.
func put[T any](l list[T], one T) {
	at, _ := place(l, l.number(one))
	*l.things = slices.Insert(*l.things, at, one)
}

// drop takes the thing of a number out; it tells whether there was one.
func drop[T any](l list[T], id int) bool {
	at, in := place(l, id)
	if in {
		*l.things = slices.Delete(*l.things, at, at+1)
	}
	return in
}

// add is the number of a new thing, the lowest one that is free, if the list may have one more.
func add[T any](l list[T], made func(id int) T) (int, api.Errno) {
	if len(*l.things) >= l.most {
		return 0, api.ErrFull
	}
	id := lowest(l)
	put(l, made(id))
	return id, api.OK
}

// lowest is the lowest number from 1 on that none in a list has. The numbers rise: so the first one that is passed over is it.
func lowest[T any](l list[T]) int {
	id := 1
	for _, one := range *l.things {
		if l.number(one) == id {
			id++
		}
	}
	return id
}
