package numeral

import "declaim/api"

const (
	mostText  = 30      // bytes of a text
	mostMod   = 1000000 // what a plural divides by
	firstByte = 33      // bytes of a text
	lastByte  = 126
)

// exists reports whether an index, or a feature counted from 0, is one of n.
func exists(index, n int) bool { return 0 <= index && index < n }

// existsOrAny admits -1, which stands for all features.
func existsOrAny(feature, n int) bool { return feature == -1 || exists(feature, n) }

func between(n, least, most int) bool { return least <= n && n <= most }

// systemRight reports whether a system is as defined.
func systemRight(s *api.System) bool {
	if !sizesRight(s) {
		return false
	}
	for _, t := range s.Terms {
		if !termRight(s, t) {
			return false
		}
	}
	for _, p := range s.Plurals {
		if !pluralRight(s, p) {
			return false
		}
	}
	for _, set := range s.Sets {
		if !setRight(s, set) {
			return false
		}
	}
	return true
}

func sizesRight(s *api.System) bool {
	return between(s.Top, 0, api.MaxTop) &&
		between(s.Genders, 1, api.MaxGenders) &&
		between(s.Cases, 1, api.MaxCases) &&
		between(s.Classes, 1, api.MaxClasses) &&
		len(s.Terms) <= api.MaxTerms &&
		len(s.Plurals) <= api.MaxPlurals &&
		between(len(s.Sets), 1, api.MaxSets)
}

func termRight(s *api.System, t api.Term) bool {
	if !exists(t.Gender, s.Genders) || len(t.Forms) > api.MaxForms {
		return false
	}
	for _, f := range t.Forms {
		if !formRight(s, f) {
			return false
		}
	}
	return true
}

func formRight(s *api.System, f api.Form) bool {
	return existsOrAny(f.Gender, s.Genders) &&
		existsOrAny(f.Case, s.Cases) &&
		existsOrAny(f.Class, s.Classes) &&
		textRight(f.Text)
}

func textRight(text string) bool {
	if !between(len(text), 1, mostText) {
		return false
	}
	for i := range len(text) {
		if !between(int(text[i]), firstByte, lastByte) {
			return false
		}
	}
	return true
}

func pluralRight(s *api.System, p api.Plural) bool {
	return between(p.Mod, 1, mostMod) &&
		0 <= p.From && p.From <= p.To && p.To < p.Mod &&
		exists(p.Class, s.Classes)
}

func setRight(s *api.System, set []api.Numeral) bool {
	if !between(len(set), 1, api.MaxNumerals) || set[0].Base != 0 || set[len(set)-1].Base > s.Top {
		return false
	}
	for i, r := range set {
		if i > 0 && r.Base <= set[i-1].Base || !ruleRight(s, r) {
			return false
		}
	}
	return true
}

func ruleRight(s *api.System, r api.Numeral) bool {
	if r.Divisor != 0 && !between(r.Divisor, 2, r.Base) || !between(len(r.Pieces), 1, api.MaxPieces) {
		return false
	}
	quotients, rests, certain := 0, 0, 0
	for _, p := range r.Pieces {
		if !pieceRight(s, r, p) {
			return false
		}
		switch p.Kind {
		case api.PieceQuotient:
			quotients++
			certain++
		case api.PieceTerm, api.PieceCounted:
			certain++
		case api.PieceRest:
			rests++
		}
	}
	return quotients <= 1 && rests <= 1 && certain >= 1
}

func pieceRight(s *api.System, r api.Numeral, p api.Piece) bool {
	if r.Divisor == 0 && p.Kind != api.PieceTerm {
		return false
	}
	switch p.Kind {
	case api.PieceTerm, api.PieceCounted:
		return exists(p.Term, len(s.Terms)) && p.Set == 0 && p.Below == 0
	case api.PieceQuotient, api.PieceRest:
		return exists(p.Set, len(s.Sets)) && p.Term == 0 && p.Below == 0
	case api.PieceLink:
		return exists(p.Term, len(s.Terms)) && p.Set == 0 && p.Below >= 0
	}
	return false
}

// askRight reports whether the systems are as defined and an ask is right for each of them.
func askRight(a api.Ask, systems ...api.System) bool {
	for i := range systems {
		s := &systems[i]
		if !systemRight(s) || !between(a.Number, 0, s.Top) || !exists(a.Set, len(s.Sets)) ||
			!exists(a.Gender, s.Genders) || !exists(a.Case, s.Cases) {
			return false
		}
	}
	return true
}

// scanError returns the error of systems and of an ask whose numbers are gone through.
func scanError(a api.Ask, systems ...api.System) api.Errno {
	if !askRight(a, systems...) {
		return api.ErrArg
	}
	if a.Number > api.MaxScan {
		return api.ErrLong
	}
	return api.OK
}
