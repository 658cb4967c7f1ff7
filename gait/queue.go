package gait

// A queue is a list in which each element stands behind, or is equal to, the
// one at half its place (counted from 1). So the first one is the least.

// put returns a queue with one element more.
func put[T any](queue []T, x T, compare func(a, b T) int) []T {
	queue = append(queue, x)
	for at := len(queue) - 1; at > 0; {
		above := (at - 1) / 2
		if compare(queue[at], queue[above]) >= 0 {
			break
		}
		queue[at], queue[above] = queue[above], queue[at]
		at = above
	}
	return queue
}

// take returns the least element of a queue that has one, and the queue without
// it.
func take[T any](queue []T, compare func(a, b T) int) (least T, rest []T) {
	least, last := queue[0], len(queue)-1
	queue[0] = queue[last]
	rest = queue[:last]
	for at := 0; ; {
		lesser := at
		for below := 2*at + 1; below <= 2*at+2 && below < len(rest); below++ {
			if compare(rest[below], rest[lesser]) < 0 {
				lesser = below
			}
		}
		if lesser == at {
			return least, rest
		}
		rest[at], rest[lesser] = rest[lesser], rest[at]
		at = lesser
	}
}
