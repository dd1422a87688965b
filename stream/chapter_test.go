package stream_test

import (
	"testing"

	"declaim/api"
	"declaim/stream"
)

// The examples of the chapter and of DOC.md.

func ledgerP(t *testing.T) *stream.Ledger {
	t.Helper()
	return opened(t, api.Grant{Voice: 1, Use: 0, From: 0, Until: 1000, Budget: 100})
}

func TestChapterPaced(t *testing.T) {
	isOK(t, "2 / 1", results(stream.Paced(pieceP(), pace(2, 1))), api.Speech{Voice: 1, Use: 1, Samples: []int{3, 4}, Signs: []api.Sign{sign(0, "x")}})
	isOK(t, "1 / 2", results(stream.Paced(pieceP(), pace(1, 2))), api.Speech{Voice: 1, Use: 1, Samples: []int{1, 2, 1, 2, 3, 4, 3, 4, 5, 6, 5, 6}, Signs: []api.Sign{sign(4, "x")}})
}

func TestChapterPull(t *testing.T) {
	s := made(t, ledgerP(t), pieceP())
	isOK(t, "Pull", results(s.Pull(4)), []int{1, 2, 3, 4}, []api.News{news(api.NewsBegin, 0, 0), signNews(2, 0, "x")})
	isOK(t, "Pull", results(s.Pull(4)), []int{5, 6, 0, 0}, []api.News{news(api.NewsEnd, 6, 0)})
}

func TestChapterStop(t *testing.T) {
	s := made(t, ledgerP(t), pieceP())
	isOK(t, "Pull", results(s.Pull(3)), []int{1, 2, 3}, []api.News{news(api.NewsBegin, 0, 0), signNews(2, 0, "x")})
	isSame(t, "Stop", s.Stop(2), api.OK)
	isOK(t, "Pull", results(s.Pull(4)), []int{2, 1, 0, 0}, []api.News{news(api.NewsStopped, 5, 0)})
}

func TestChapterLedger(t *testing.T) {
	l := ledgerP(t)
	isError(t, "Take", results(l.Take(1, 7, 101, 0)), api.ErrConsent)
	isOK(t, "May", results(l.May(1, 7, 100, 999)), true)
	isOK(t, "May", results(l.May(1, 7, 1, 1000)), false)
	isOK(t, "May", results(l.May(2, 7, 0, 0)), false)
}

func TestChapterJobs(t *testing.T) {
	isOK(t, "Ready", results(stream.Ready(2, job(3, 0), job(4, 0))), []int{2, 4})
	isOK(t, "Order", results(stream.Order(1, job(5, 9), job(2, 2))), []int{1, 0})
}
