package text

import (
	"slices"
	"strconv"
	"strings"

	"declaim/api"
	"declaim/numeral"
)

// mostDigits is the length of the longest number that a group says.
const mostDigits = 12

// unsayable is the panic of a say that cannot be said.
type unsayable struct{}

// question is what layer 1 is asked: the words of a number, or, for a term that is not -1, its form for the number.
type question struct {
	term int
	ask  api.Ask
}

// voice finds what conventions say.
type voice struct {
	*api.Grammar
	kinds   map[api.SayKind]func(say int) []string
	answers map[question][]string // of layer 1; none where there are no words
	says    []api.Say
	groups  []string
	said    []string
}

func newVoice(g *api.Grammar) *voice {
	v := &voice{Grammar: g, answers: map[question][]string{}}
	v.kinds = map[api.SayKind]func(int) []string{
		api.SayWords:   v.sayWords,
		api.SayNumber:  v.sayNumber,
		api.SayDigits:  v.sayDigits,
		api.SayEcho:    v.sayEcho,
		api.SayRow:     v.sayRow,
		api.SayCounted: v.sayCounted,
	}
	return v
}

// speak returns what is said for groups, until it is called again; false if something cannot be said.
func (v *voice) speak(says []api.Say, groups []string) (words []string, ok bool) {
	if len(says) == 0 {
		return nil, true
	}
	defer func() {
		if reason := recover(); reason != nil {
			if _, given := reason.(unsayable); !given {
				panic(reason)
			}
			words, ok = nil, false
		}
	}()
	v.says, v.groups, v.said = says, groups, v.said[:0]
	for i := range says {
		v.said = append(v.said, v.tell(i)...)
	}
	return v.said, true
}

func (v *voice) tell(say int) []string { return v.kinds[v.says[say].Kind](say) }

func (v *voice) group(say int) string { return v.groups[v.says[say].Group] }

func (v *voice) sayWords(say int) []string { return v.says[say].Words }

func (v *voice) sayNumber(say int) []string {
	s := v.says[say]
	gender := s.Gender
	if gender == -1 {
		gender = v.genderBehind(say)
	}
	return v.ask(question{term: -1, ask: api.Ask{Number: v.number(say), Set: s.Set, Gender: gender, Case: s.Case}})
}

func (v *voice) sayDigits(say int) []string {
	s, group := v.says[say], v.group(say)
	mustBe(digitsOnly(group))
	var words []string
	for i := range len(group) {
		digit := int(group[i] - '0')
		words = append(words, v.ask(question{term: -1, ask: api.Ask{Number: digit, Set: s.Set, Gender: s.Gender, Case: s.Case}})...)
	}
	return words
}

func (v *voice) sayEcho(say int) []string {
	group := v.group(say)
	mustBe(wordRight(group))
	return []string{group}
}

func (v *voice) sayRow(say int) []string {
	rows := v.Tables[v.says[say].Table]
	i, found := slices.BinarySearchFunc(rows, v.group(say), func(row api.Row, text string) int {
		return strings.Compare(row.Text, text)
	})
	mustBe(found)
	return rows[i].Words
}

func (v *voice) sayCounted(say int) []string {
	s := v.says[say]
	own := v.System.Terms[s.Term].Gender
	return v.ask(question{term: s.Term, ask: api.Ask{Number: v.number(say), Gender: own, Case: s.Case}})
}

// genderBehind is the gender of the first noun that later says say.
func (v *voice) genderBehind(say int) int {
	for later := say + 1; later < len(v.says); later++ {
		switch v.says[later].Kind {
		case api.SayWords, api.SayRow, api.SayCounted:
			for _, word := range v.tell(later) {
				if gender, found := v.genderOf(word); found {
					return gender
				}
			}
		}
	}
	return 0
}

func (v *voice) genderOf(word string) (int, bool) {
	i, found := slices.BinarySearchFunc(v.Nouns, word, func(noun api.Noun, word string) int {
		return strings.Compare(noun.Word, word)
	})
	if !found {
		return 0, false
	}
	return v.Nouns[i].Gender, true
}

// number is what the group of a say says.
func (v *voice) number(say int) int {
	group := v.group(say)
	mustBe(len(group) <= mostDigits && digitsOnly(group))
	number, err := strconv.Atoi(group)
	mustBe(err == nil)
	return number
}

// ask asks layer 1, which says nothing of numbers that are greater than Top.
func (v *voice) ask(q question) []string {
	words, known := v.answers[q]
	if !known {
		words, _ = numeral.Spell(v.system(q.term), q.ask)
		v.answers[q] = words
	}
	mustBe(len(words) > 0)
	return words
}

// system says numbers; for a term that is not -1, it is one that says the term for all numbers, because layer 1 gives forms only as words of numbers.
func (v *voice) system(term int) api.System {
	s := v.System
	if term != -1 {
		s.Terms = []api.Term{s.Terms[term]}
		s.Sets = [][]api.Numeral{{{Pieces: []api.Piece{{Kind: api.PieceTerm}}}}}
	}
	return s
}

// mustBe gives up what cannot be said.
func mustBe(sayable bool) {
	if !sayable {
		panic(unsayable{})
	}
}

func digitsOnly(group string) bool {
	return every([]byte(group), func(b byte) bool { return '0' <= b && b <= '9' })
}
