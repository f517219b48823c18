package pilot

import (
	"windhover/api"
	"windhover/fence"
	"windhover/mission"
	"windhover/params"
	"windhover/store"
)

// The objects of the store.
const (
	paramsObject  = 0
	missionObject = 1
	fenceObject   = 2
)

// force is what is in force, and the store that keeps it.
type force struct {
	store   *store.Store
	values  []int
	kept    bool // whether the store had the parameters
	margins api.Margins
	items   []api.MissionItem
	fence   api.Fence
	fenced  bool
}

// recall is what a store keeps. Of an object that is not there it has the empty text, which none of the three is read from.
func recall(s *store.Store) force {
	f := force{store: s}
	values, e := decodeObject(s, paramsObject, params.Decode)
	f.kept = e == api.OK
	if !f.kept {
		values = params.Defaults()
	}
	f.use(values)
	f.items, _ = decodeObject(s, missionObject, mission.Decode)
	f.fence, e = decodeObject(s, fenceObject, fence.Decode)
	f.fenced = e == api.OK
	return f
}

// decodeObject reads an object of a store.
func decodeObject[T any](s *store.Store, id int, decode func(string) (T, api.Errno)) (T, api.Errno) {
	data, _ := s.Get(id)
	return decode(data)
}

// use lets parameters be in force; they are sound, so that there is no error.
func (f *force) use(values []int) {
	f.values = values
	f.margins, _ = params.Margins(values)
}

// keepParam changes a parameter, and tells whether the new ones are kept.
func (f *force) keepParam(i, x int) api.Errno {
	values, e := params.Set(f.values, i, x)
	if e != api.OK {
		return e
	}
	data, e := params.Encode(values)
	if e != api.OK {
		return e
	}
	if e := f.store.Put(paramsObject, data); e != api.OK {
		return e
	}
	f.use(values)
	f.kept = true
	return api.OK
}

// keepMission keeps a mission that is sound.
func (f *force) keepMission(items []api.MissionItem) api.Errno {
	data, e := mission.Encode(items)
	if e != api.OK {
		return e
	}
	if e := f.store.Put(missionObject, data); e != api.OK {
		return e
	}
	f.items = items
	return api.OK
}

// keepFence keeps a fence that is sound.
func (f *force) keepFence(area api.Fence) api.Errno {
	data, e := fence.Encode(area)
	if e != api.OK {
		return e
	}
	if e := f.store.Put(fenceObject, data); e != api.OK {
		return e
	}
	f.fence, f.fenced = area, true
	return api.OK
}

// within tells whether a box lies in the fence; where there is none, nothing does.
func (f *force) within(box api.Box) bool {
	inside, e := fence.Holds(f.fence, box)
	return f.fenced && e == api.OK && inside
}
