package tests

import (
	"slices"

	"loop.example/g00337/impl"
)

// What the tests of several layers ask of what is Reached. All of it is asked only of right graphs, and goes by the chapter's words.

func idsLedTo(list []impl.Ref) []int64 {
	ids := []int64{}
	for _, r := range list {
		if r.Kind == 2 {
			ids = append(ids, r.N)
		}
	}
	return ids
}

// waits: of FoEphem, where the first Slot leads to one that is not in the set.
func waits(o impl.Obj, set []int64) bool {
	return o.Format == 2 && o.Slots[0].Kind == 2 && !slices.Contains(set, o.Slots[0].N)
}

// onwardFrom are the Ids to which an Obj of the set leads on.
func onwardFrom(o impl.Obj, set []int64) []int64 {
	switch {
	case o.Format == 0:
		return idsLedTo(o.Slots)
	case o.Format == 2 && !waits(o, set):
		return idsLedTo(o.Slots[1:])
	}
	return nil
}

// nextOf are all the Ids that must be in a set which has those of this one.
func nextOf(g impl.Graph, set []int64) []int64 {
	ids := append(idsLedTo(g.Roots), idsLedTo(g.Mourned)...)
	for _, o := range g.Objs {
		if slices.Contains(set, o.Id) {
			ids = append(ids, onwardFrom(o, set)...)
		}
	}
	slices.Sort(ids)
	return slices.Compact(ids)
}

func isWithin(less, more []int64) bool {
	return !slices.ContainsFunc(less, func(id int64) bool { return !slices.Contains(more, id) })
}

func isClosed(g impl.Graph, set []int64) bool { return isWithin(nextOf(g, set), set) }

// wantReached goes up from nothing, over all Objs again and again, until there is no more.
func wantReached(g impl.Graph) []int64 {
	set := []int64{}
	for {
		next := nextOf(g, set)
		if slices.Equal(next, set) {
			return set
		}
		set = next
	}
}

func wantGrieving(g impl.Graph) []int64 {
	reached := wantReached(g)
	list := []impl.Obj{}
	for _, o := range g.Objs {
		if slices.Contains(reached, o.Id) && waits(o, reached) {
			list = append(list, o)
		}
	}
	ids := []int64{}
	for len(list) > 0 {
		first := 0
		for i, o := range list {
			if o.Hash < list[first].Hash || o.Hash == list[first].Hash && o.Id < list[first].Id {
				first = i
			}
		}
		ids = append(ids, list[first].Id)
		list = slices.Delete(list, first, first+1)
	}
	return ids
}

func wantMourning(g impl.Graph) impl.Graph {
	made := cloned(g)
	for {
		ids := wantGrieving(made)
		if len(ids) == 0 {
			return made
		}
		for _, id := range ids {
			for i := range made.Objs {
				if made.Objs[i].Id == id {
					made.Objs[i].Format = 0
				}
			}
			if len(made.Mourned) < 40 {
				made.Mourned = append(made.Mourned, rObj(id))
			}
		}
	}
}

func wantCollected(g impl.Graph) impl.Graph {
	made := wantMourning(g)
	reached := wantReached(made)
	objs := []impl.Obj{}
	for _, o := range made.Objs {
		if !slices.Contains(reached, o.Id) {
			continue
		}
		for i, r := range o.Slots {
			if o.Format == 1 && r.Kind == 2 && !slices.Contains(reached, r.N) {
				o.Slots[i] = rNil
			}
		}
		objs = append(objs, o)
	}
	made.Objs = objs
	return made
}

// sparse is a right graph to most of whose Objs only few lead: one or two Roots, more of FoEphem than of all others, and Hashes that are often alike.
func (d *dice) sparse(n, most, mourned int64) impl.Graph {
	g := d.graph(n, most, mourned)
	for i := range g.Roots {
		if i > 1 || d.roll(3) == 0 {
			g.Roots[i] = rNil
		}
	}
	for i := range g.Objs {
		o := &g.Objs[i]
		if d.roll(2) == 0 && len(o.Slots) > 0 {
			o.Format = impl.FoEphem
		}
		o.Hash = d.roll(5)
	}
	return g
}
