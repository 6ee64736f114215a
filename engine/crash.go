package engine

import (
	"starling/api"
	"starling/disk"
	"starling/journal"
)

// crashed answers what is left of a store that crashes behind ops: of what waits just the writes landed whose bits are 1.
func crashed(s api.Store, ops []api.Op, data, kept uint64) (api.Store, api.Errno) {
	left, err := journal.Play(s, ops)
	if err != api.OK {
		return api.Store{}, err
	}
	if left.Data, err = disk.Crash(left.Data, data); err != api.OK {
		return api.Store{}, err
	}
	if left.Journal, err = disk.Crash(left.Journal, kept); err != api.OK {
		return api.Store{}, err
	}
	return left, api.OK
}
