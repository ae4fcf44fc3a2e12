package regex

// set is bytes: each one is a bit.
type set [4]uint64

func (s *set) has(b byte) bool { return s[b/64]>>(b%64)&1 != 0 }

// add puts the bytes from one to another in.
func (s *set) add(from, to byte) {
	// As an int, what is counted goes beyond 255, and ends there.
	for b := int(from); b <= int(to); b++ {
		s[b/64] |= 1 << (b % 64)
	}
}

// others tells the bytes that are not in a set.
func (s set) others() set {
	for i := range s {
		s[i] = ^s[i]
	}
	return s
}
