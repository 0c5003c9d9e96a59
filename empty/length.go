package empty

import "harrow/api"

// beyond is a length above all numbers: as a Least it is the chapter's none, as a Most its no bound.
const beyond = -1

func sum(a, b int) int {
	if a == beyond || b == beyond {
		return beyond
	}
	return a + b
}

func product(n, a int) int {
	if a == beyond {
		return beyond
	}
	return n * a
}

func lesser(a, b int) int {
	switch {
	case a == beyond:
		return b
	case b == beyond:
		return a
	}
	return min(a, b)
}

func greater(a, b int) int {
	if a == beyond || b == beyond {
		return beyond
	}
	return max(a, b)
}

func cutLeast(a int) int {
	return min(a, api.MaxLength)
}

func cutMost(a int) int {
	if a > api.MaxLength {
		return beyond
	}
	return a
}
