package stream

import (
	"testing"

	"declaim/api"
)

// TestLastClock is within the package, because no test can wait until a clock comes to its end.
func TestLastClock(t *testing.T) {
	l := Open()
	l.Give(api.Grant{Voice: 1, Until: api.MaxClock, Budget: 9})
	s, _ := New(l)
	s.clock = api.MaxClock - 3
	s.Queue(api.Speech{Voice: 1, Use: 1, Samples: []int{5}})
	s.Queue(api.Speech{Voice: 1, Use: 1, Samples: []int{6, 7, 8}})
	for _, c := range []struct {
		n    int
		want api.Errno
		at   int
	}{
		{4, api.ErrLong, 3},
		{api.MaxPull, api.ErrLong, 3},
		{api.MaxPull + 1, api.ErrArg, 3},
		{-1, api.ErrArg, 3},
		{2, api.OK, 1},
		{2, api.ErrLong, 1},
		{1, api.OK, 0},
		{0, api.OK, 0},
		{1, api.ErrLong, 0},
	} {
		samples, news, e := s.Pull(c.n)
		if e != c.want || e == api.OK && len(samples) != c.n || e != api.OK && len(samples)+len(news) > 0 || s.Clock() != api.MaxClock-c.at {
			t.Errorf("%+v: %v, %v, error %d, %d before the end", c, samples, news, e, api.MaxClock-s.Clock())
		}
	}
}
