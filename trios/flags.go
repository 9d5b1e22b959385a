package trios

import (
	"slices"

	"gouache/api"
)

// What a vertex's flag tells of its triangle.
const (
	begins  = iota // one of its own
	keepsBC        // it goes on from the last two of the one ahead
	keepsAC        // from the first one and the last one
)

// behind: how many vertices the one that begins takes along.
const behind = 2

// ofFlags: the triangles of vertices that come one by one.
func ofFlags(v []api.Rec) ([]api.Tri, api.Errno) {
	if len(v) > 0 && v[0].Flag != begins {
		return nil, api.ErrFirst
	}
	var out []api.Tri
	var t api.Tri
	wrong := api.OK
vertices:
	for i := 0; i < len(v); i++ {
		switch v[i].Flag {
		case begins:
			if len(v)-1-i < behind {
				wrong = api.ErrShort
				break vertices
			}
			t = triOf(v[i], v[i+1], v[i+2])
			// Their flags tell nothing, whatever stands there.
			i += behind
		case keepsBC:
			t = triOf(t[1], t[2], v[i])
		case keepsAC:
			t = triOf(t[0], t[2], v[i])
		default:
			wrong = api.ErrFlag
			break vertices
		}
		out = append(out, t)
	}
	if wrong != api.OK {
		return nil, wrong
	}
	return slices.Clip(out), api.OK
}
