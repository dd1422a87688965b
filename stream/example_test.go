package stream_test

import (
	"fmt"

	"declaim/api"
	"declaim/stream"
)

// Example is the use that README.md shows.
func Example() {
	ledger := stream.Open()
	grant, _ := ledger.Give(api.Grant{Voice: 1, Until: 1000, Budget: 100})
	speaker, _ := stream.New(ledger)
	piece := api.Speech{Voice: 1, Use: 7, Samples: []int{1, 2, 3, 4, 5, 6}, Periods: []int{0, 2, 4}, Signs: []api.Sign{{At: 2, Name: "here"}}, Effort: 10}
	fmt.Println(speaker.Queue(piece))
	fmt.Println(speaker.Pull(2))
	fmt.Println(speaker.Make(10))
	fmt.Println(speaker.Pull(3))
	fmt.Println(speaker.Stop(2))
	fmt.Println(speaker.Pull(4))
	fmt.Println(ledger.Used(grant))
	fmt.Println(stream.Paced(piece, api.Pace{Num: 1, Den: 2}))
	fmt.Println(stream.Order(1, api.Job{Effort: 5, Due: 9}, api.Job{Effort: 2, Due: 2}))
	// Output:
	// 0 0
	// [0 0] [{6 0 0 }] 0
	// 0
	// [1 2 3] [{1 2 0 } {2 4 0 here}] 0
	// 0
	// [2 1 0 0] [{5 7 0 }] 0
	// 6 0
	// {1 7 [1 2 1 2 3 4 3 4 5 6 5 6] [] [{4 here}] 10} 0
	// [1 0] 0
}
