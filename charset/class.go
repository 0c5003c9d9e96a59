package charset

import "harrow/api"

// How far a capital letter stands ahead of its small one in ASCII.
const capitalToSmall = 'a' - 'A'

func Class(letter byte) (api.Set, api.Errno) {
	if !isCapital(int(letter)) {
		return smallClass(letter)
	}
	s, e := smallClass(letter + capitalToSmall)
	if e != api.OK {
		return api.Set{}, e
	}
	return Not(s), api.OK
}

func Fold(s api.Set) api.Set {
	folded := s
	for b := range Each(s) {
		if isCapital(b) {
			folded = with(folded, b+capitalToSmall)
		} else if isSmall(b) {
			folded = with(folded, b-capitalToSmall)
		}
	}
	return folded
}

// Written out by hand: the library's tables of letters know more than ASCII.
func smallClass(letter byte) (api.Set, api.Errno) {
	switch letter {
	case 'a':
		return letters(), api.OK
	case 'c':
		return with(bytesFrom(0, 31), 127), api.OK
	case 'd':
		return bytesFrom('0', '9'), api.OK
	case 'g':
		return bytesFrom(33, 126), api.OK
	case 'l':
		return bytesFrom('a', 'z'), api.OK
	case 'p':
		return Less(bytesFrom(33, 126), lettersAndDigits()), api.OK
	case 's':
		return with(bytesFrom(9, 13), ' '), api.OK
	case 'u':
		return bytesFrom('A', 'Z'), api.OK
	case 'w':
		return lettersAndDigits(), api.OK
	case 'x':
		return fill(fill(bytesFrom('0', '9'), 'A', 'F'), 'a', 'f'), api.OK
	}
	return api.Set{}, api.ErrClass
}

func letters() api.Set {
	return fill(bytesFrom('A', 'Z'), 'a', 'z')
}

func lettersAndDigits() api.Set {
	return fill(letters(), '0', '9')
}

func bytesFrom(lo, hi int) api.Set {
	return fill(api.Set{}, lo, hi)
}

func isCapital(b int) bool {
	return b >= 'A' && b <= 'Z'
}

func isSmall(b int) bool {
	return b >= 'a' && b <= 'z'
}
