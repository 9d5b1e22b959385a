package trios

import "gouache/api"

// leastRows: with fewer there is no cell between them.
const leastRows = 2

// ofRows: the triangles of vertices that come in rows, of two vertices at least.
func ofRows(v []api.Rec, row int) ([]api.Tri, api.Errno) {
	rows := len(v) / row
	if len(v)%row != 0 || rows < leastRows {
		return nil, api.ErrShort
	}
	out := make([]api.Tri, 0, 2*(rows-1)*(row-1))
	for ; len(v) > row; v = v[row:] {
		out = appendCells(out, v[:row], v[row:])
	}
	return out, api.OK
}

// appendCells: the two triangles of each cell between a row and what begins below it.
func appendCells(out []api.Tri, row, below []api.Rec) []api.Tri {
	for i := range len(row) - 1 {
		p, q, r, s := row[i], row[i+1], below[i], below[i+1]
		out = append(out, triOf(p, q, r), triOf(q, s, r))
	}
	return out
}
