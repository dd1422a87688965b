package prosody

import "declaim/api"

func marks(words []api.SpokenWord, breaks []int, act api.Act) []api.Mark {
	var all []api.Mark
	for p := range phrases(words, breaks, minor) {
		if accented := p.accented(); accented >= 0 {
			all = append(all, accent(words[accented], accented))
		}
		last := p.to - 1
		end := api.Mark{Word: last, Syllable: words[last].Syllables - 1}
		if p.isLast() {
			end.Tune = lastTune(act)
		} else {
			end.Tune = tuneBefore(breaks[last], act)
		}
		all = append(all, end)
	}
	return all
}

// accented returns the index of the accented word of a phrase, or -1.
func (p phrase) accented() int {
	stressed, withContent := -1, -1
	for i := p.from; i < p.to; i++ {
		w := p.words[i]
		if w.Stressed < 0 {
			continue
		}
		if w.Focus {
			return i
		}
		stressed = i
		if w.Content {
			withContent = i
		}
	}
	if withContent >= 0 {
		return withContent
	}
	return stressed
}

func accent(w api.SpokenWord, index int) api.Mark {
	if w.Focus {
		return api.Mark{Word: index, Syllable: w.Stressed, Tune: api.TuneFocus}
	}
	return api.Mark{Word: index, Syllable: w.Stressed, Tune: api.TuneAccent}
}

// lastTune is the tune at the end of a sentence.
func lastTune(act api.Act) api.Tune {
	switch act {
	case api.ActAsk:
		return api.TuneRise
	case api.ActCall:
		return api.TuneKeep
	}
	return api.TuneFall
}

// tuneBefore is the tune before a break in a sentence.
func tuneBefore(level int, act api.Act) api.Tune {
	switch {
	case act == api.ActList:
		return api.TuneRise
	case level == minor:
		return api.TuneKeep
	}
	return api.TuneFall
}
