package item

// The rows in which each entry stands: that of all entries, which tells their order, and
// that of its class, so that one that is to go isn't looked for among all the others.
const (
	all = iota
	peers
	rows
)

// endOfAll is the place of the end of the row of all.
const endOfAll = 0

// link is an entry's neighbours in a row: the one that was touched next behind it, and
// the one that was touched last ahead of it. A row is a ring: behind its oldest entry
// comes its end, which is no item, and behind that its newest one.
type link struct {
	newer, older int
}

// endOf tells the place of the end of a class's row.
func endOf(class int) int {
	return endOfAll + 1 + class
}

// alone is the end, which has that place, of a row without entries.
func alone(at int) entry {
	return entry{links: [rows]link{{at, at}, {at, at}}}
}

// older tells the place of the next entry of a row; behind the end, of its newest one.
func (s *Store) older(row, at int) int {
	return s.entries[at].links[row].older
}

// newer tells the place of the entry ahead in a row; ahead of the end, of its oldest one.
func (s *Store) newer(row, at int) int {
	return s.entries[at].links[row].newer
}

// lead makes an entry that stands in no row the newest one of its rows.
func (s *Store) lead(at int) {
	ends := [rows]int{all: endOfAll, peers: endOf(s.entries[at].handle.Class)}
	for row, end := range ends {
		newest := s.older(row, end)
		s.entries[at].links[row] = link{newer: end, older: newest}
		s.entries[end].links[row].older = at
		s.entries[newest].links[row].newer = at
	}
}

// leave takes an entry out of its rows.
func (s *Store) leave(at int) {
	for row := range rows {
		newer, older := s.newer(row, at), s.older(row, at)
		s.entries[newer].links[row].older = older
		s.entries[older].links[row].newer = newer
	}
}

// oldest tells the place of the entry of a class, of those that aren't pinned, that was
// touched longest ago; none, if there is none.
func (s *Store) oldest(class int) int {
	found, end := none, endOf(class)
look:
	for at := s.newer(peers, end); at != end; at = s.newer(peers, at) {
		if s.entries[at].pinned {
			continue look
		}
		found = at
		break look
	}
	return found
}
