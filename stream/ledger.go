package stream

import "declaim/api"

// A grant of a ledger.
type grant struct {
	api.Grant
	used      int // samples
	withdrawn bool
}

// Ledger says which voices may be used.
type Ledger struct {
	open   bool
	grants []grant
}

// isNone reports whether there is no ledger.
func (l *Ledger) isNone() bool { return l == nil || !l.open }

func (l *Ledger) has(number int) bool { return between(number, 0, len(l.grants)-1) }

// permitting returns the number of the first grant that permits samples, and whether there is one.
func (l *Ledger) permitting(voice, use, n, t int) (int, bool) {
grants:
	for number, g := range l.grants {
		for _, permitted := range [...]bool{
			!g.withdrawn,
			g.Voice == voice,
			g.Use == use || g.Use == 0,
			g.From <= t && t < g.Until,
			g.used <= g.Budget-n,
		} {
			if !permitted {
				continue grants
			}
		}
		return number, true
	}
	return 0, false
}
