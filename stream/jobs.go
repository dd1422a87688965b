package stream

import (
	"cmp"
	"slices"

	"declaim/api"
)

func ready(power int, jobs ...api.Job) []int {
	times, sum := make([]int, len(jobs)), 0
	for i, j := range jobs {
		sum += j.Effort
		times[i] = (sum + power - 1) / power
	}
	return times
}

func inTime(power int, jobs ...api.Job) bool {
	for i, t := range ready(power, jobs...) {
		if t > jobs[i].Due {
			return false
		}
	}
	return true
}

// byDue returns the indexes of jobs by increasing Due.
func byDue(jobs ...api.Job) []int {
	order := make([]int, len(jobs))
	for i := range order {
		order[i] = i
	}
	slices.SortStableFunc(order, func(a, b int) int { return cmp.Compare(jobs[a].Due, jobs[b].Due) })
	return order
}
