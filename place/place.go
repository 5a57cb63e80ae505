// Package place tells where pages stand on a disk when the log does not hold them: at home.
package place

import "cryostat/api"

// HomeSeq is the number of each record that is at home; the log's numbers say nothing of those.
const HomeSeq = 1

// Home tells the sector of a page's part.
func Home(page int, part int) int {
	return api.HomeAt + api.Parts*page + part
}
