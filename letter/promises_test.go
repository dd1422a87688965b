package letter_test

import (
	"fmt"
	"math/rand/v2"
	"slices"
	"strings"
	"testing"

	"declaim/api"
	"declaim/letter"
)

// TestGreaterCosts: if all costs grow by the same number, neither alignments nor rules change.
func TestGreaterCosts(t *testing.T) {
	aligned := 0
	forRandom(t, 300, 10, 6, func(r *rand.Rand, p []api.Pair, l []api.Spelled) {
		dearer, more := slices.Clone(p), 1+r.IntN(998)
		for i := range dearer {
			dearer[i].Cost += more
		}
		for _, entry := range l {
			one, cost, e := letter.Align(p, entry.Word, entry.Phones)
			other, greater, f := letter.Align(dearer, entry.Word, entry.Phones)
			isSame(t, entry.Word, other, one)
			if e != f || e == api.OK && greater != cost+more*len(one) {
				t.Errorf("%s: %d %d, %d %d", entry.Word, cost, e, greater, f)
			}
			aligned += len(one)
		}
		o := randomLearning(r)
		one, _ := letter.Learn(l, p, o)
		other, e := letter.Learn(l, dearer, o)
		isOK(t, "Learn", e)
		isSame(t, "Learn", other, one)
	})
	if aligned < 1000 {
		t.Errorf("only %d letters", aligned)
	}
}

// TestAccentOfOthers: more degrees of an accent do not change phones without an entry, and the degree 0 changes nothing.
func TestAccentOfOthers(t *testing.T) {
	for seed := range uint64(500) {
		r := rand.New(rand.NewPCG(seed, 8))
		var a []api.Foreign
		for _, phone := range []string{"p", "pq", "q"} {
			if f := (api.Foreign{Phone: phone}); r.IntN(2) == 0 {
				for range 1 + r.IntN(5) {
					f.Steps = append(f.Steps, slices.Repeat([]string{"new"}, r.IntN(4)))
				}
				a = append(a, f)
			}
		}
		all := randomPiece(r, 20)
		others := slices.DeleteFunc(slices.Clone(all), func(phone string) bool {
			return slices.ContainsFunc(a, func(f api.Foreign) bool { return f.Phone == phone })
		})
		for degree := range 6 {
			changed, e := letter.Accent(a, all, degree)
			isOK(t, "Accent", e)
			if degree == 0 {
				isSame(t, "degree 0", changed, all)
				continue
			}
			kept := slices.DeleteFunc(changed, func(phone string) bool { return phone == "new" })
			isSame(t, "others", kept, others)
		}
	}
}

// TestMemory: no argument is changed, and results share no memory with arguments or each other.
func TestMemory(t *testing.T) {
	l, p, b := append(lexiconE(), spelled("catcat", "x")), pairsE(), bookE()
	j := joints("a//b c/", "t/k/t/k")
	a := []api.Foreign{{Phone: "k", Steps: [][]string{phones("K k")}}}
	words, all := wordsOf("k a/t t/k"), phones("k a k")
	before := fmt.Sprint(l, p, b, j, a, words, all)
	once := func() (results []any, lists [][]string) {
		aligned, _, _ := letter.Align(p, "ate", phones("ei t"))
		learned, _ := letter.Learn(l, p, learning(2, 1, 10))
		score, _ := letter.Validate(l, p, learning(2, 1, 10), 2)
		said, _ := letter.Say(b, "cat")
		parts, _ := letter.Split(l, "catate")
		pronounced, _ := letter.Pronounce(l, b, "catate")
		joined, _ := letter.Join(j, words)
		plain, _ := letter.Join(nil, words)
		accented, _ := letter.Accent(a, all, 1)
		same, _ := letter.Accent(a, all, 0)
		lists = append(lists, parts, accented, same)
		lists = slices.Concat(lists, aligned, joined, plain)
		for _, own := range learned.Letters {
			for _, rule := range own.Rules {
				lists = append(lists, rule.Piece)
			}
		}
		return []any{fmt.Sprint(aligned, learned, score, said, parts, pronounced, joined, plain, accented, same)}, lists
	}
	want, lists := once()
	for _, list := range lists {
		for i := range list {
			list[i] += "!" // twice, if it were shared
		}
		// what grows must not run into another list
		_ = append(list, "?")
	}
	for _, list := range lists {
		for _, text := range list {
			if strings.Count(text, "!") != 1 || strings.HasPrefix(text, "?") {
				t.Errorf("shared: %v", list)
			}
		}
	}
	again, _ := once()
	isSame(t, "results", again, want)
	isSame(t, "arguments", fmt.Sprint(l, p, b, j, a, words, all), before)
}

// TestBookMemory: the conditions of learned rules share no memory.
func TestBookMemory(t *testing.T) {
	l := examplesOf("axb p axc q dxb q dxc p axbe p axce q dxbe q dxce p")
	b, _ := letter.Learn(l, pairsOf(), learning(1, 1, 10))
	again, _ := letter.Learn(l, pairsOf(), learning(1, 1, 10))
	for i := range b.Letters {
		for k := range b.Letters[i].Rules {
			for c := range b.Letters[i].Rules[k].Tests {
				b.Letters[i].Rules[k].Tests[c].At += 10
			}
		}
	}
	for i := range b.Letters {
		for k := range b.Letters[i].Rules {
			for c, condition := range b.Letters[i].Rules[k].Tests {
				isSame(t, "condition", condition.At, again.Letters[i].Rules[k].Tests[c].At+10)
			}
		}
	}
}

// TestLimits: the longest lists of everything.
func TestLimits(t *testing.T) {
	r := rand.New(rand.NewPCG(1, 2))
	var p []api.Pair
	for c := range 25 {
		for piece := range 40 {
			p = append(p, pair(rune('a'+c), string([]byte{byte('A' + piece/10), byte('A' + piece%10)}), 1000))
		}
	}
	var l []api.Spelled
	for i := range api.MaxLexicon {
		entry := api.Spelled{Word: string([]byte{byte('a' + i/200), byte('a' + i/10%20), byte('a' + i%10)})}
		for len(entry.Word) < 40 {
			entry.Word += string(rune('a' + r.IntN(25)))
		}
		for range entry.Word {
			entry.Phones = append(entry.Phones, p[r.IntN(40)].Piece[0])
		}
		l = append(l, entry)
	}
	b, e := letter.Learn(l, p, learning(3, 1, 500))
	if e != api.OK || !letter.ValidBook(b) || len(b.Letters) != 25 || len(b.Letters[0].Rules) != 501 {
		t.Fatalf("Learn: %d letters, %d", len(b.Letters), e)
	}
	sounds, e := letter.Pronounce(l, b, strings.Repeat("a", 40))
	if e != api.OK || len(sounds) != 40 || sounds[0].By != api.ReasonRule {
		t.Errorf("Pronounce: %v %d", sounds, e)
	}
	score, e := letter.Validate(l, p, learning(1, 1000, 500), 10)
	if e != api.OK || score.Words != api.MaxLexicon || score.Letters != 40*api.MaxLexicon {
		t.Errorf("Validate: %v %d", score, e)
	}
}

// oddNumber is at a bound, near one, or anywhere.
func oddNumber(r *rand.Rand) int {
	if r.IntN(30) == 0 {
		return int(r.Uint64())
	}
	return someOf(r, -1<<63, -4, -3, -1, 0, 0, 1, 1, 2, 3, 4, 5, 6, 10, 11, 500, 501, 1000, 1001, 1<<63-1)
}

func oddRune(r *rand.Rand) rune {
	return someOf(r, -1<<31, -1, 0, 0, ' ', '!', 'a', 'a', 'b', 0xd800, 0x10ffff, 0x110000, 1<<31-1)
}

func oddText(r *rand.Rand) string {
	return someOf(r, "", " ", "a", "p", "ab", "\xff", "\u00e9", "123456789", strings.Repeat("a", 41), randomWord(r, 6))
}

// spoil changes something to anything.
func spoil(r *rand.Rand, p []api.Pair, l []api.Spelled, b api.Book) {
	switch r.IntN(6) {
	case 0:
		p[r.IntN(len(p))].Letter = oddRune(r)
	case 1:
		p[r.IntN(len(p))].Cost = oddNumber(r)
	case 2:
		p[r.IntN(len(p))].Piece = []string{oddText(r)}
	case 3:
		l[r.IntN(len(l))] = api.Spelled{Word: oddText(r), Phones: []string{oddText(r)}}
	case 4:
		for i := range b.Letters {
			b.Letters[i].Rules[0] = api.Choice{Tests: []api.Condition{when(oddNumber(r), oddRune(r))}, Piece: []string{oddText(r)}}
		}
	case 5:
		for i := range b.Letters {
			b.Letters[i].Rules = nil
		}
	}
}

// TestAnyValue: every function returns for all arguments, and refuses what is not valid.
func TestAnyValue(t *testing.T) {
	valid := map[string]int{}
	forRandom(t, 3000, 6, 3, func(r *rand.Rand, p []api.Pair, l []api.Spelled) {
		b := randomBook(r)
		spoil(r, p, l, b)
		word, all := oddText(r), []string{oddText(r), oddText(r)}
		o := learning(oddNumber(r), oddNumber(r), oddNumber(r))
		letter.Learn(l, p, o)
		letter.Validate(l, p, learning(2, 1, 5), oddNumber(r))
		letter.Align(p, word, all)
		letter.Say(b, word)
		letter.Split(l, word)
		letter.Pronounce(l, b, word)
		letter.Join([]api.Joint{{Left: all, Right: all[:1], ToRight: all}}, [][]string{all, nil, all})
		letter.Accent([]api.Foreign{{Phone: word, Steps: [][]string{all, nil}}}, all, oddNumber(r))
		if letter.ValidPairs(p) {
			valid["pairs"]++
		} else {
			withoutResults(t, align("pairs", api.ErrArg, p, "a", nil), learn("pairs", api.ErrArg, l, p, learning(1, 1, 1)), validate("pairs", api.ErrArg, l, p, learning(1, 1, 1), 2))
		}
		if letter.ValidLexicon(l) {
			valid["lexicon"]++
		} else {
			withoutResults(t, split("lexicon", api.ErrArg, l, "a"), pronounce("lexicon", api.ErrArg, l, bookE(), "a"), learn("lexicon", api.ErrArg, l, pairsE(), learning(1, 1, 1)))
		}
		if letter.ValidBook(b) {
			valid["book"]++
		} else {
			withoutResults(t, say("book", api.ErrArg, b, "a"), pronounce("book", api.ErrArg, lexiconE(), b, "a"))
		}
	})
	if valid["pairs"] < 1000 || valid["lexicon"] < 1000 || valid["book"] < 1000 {
		t.Errorf("only %v", valid)
	}
}
