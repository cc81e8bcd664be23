package impl

const Nil = 2
const MaxInt = 100000
const MaxAddr = 999

// The low two bits of a word tell a number (1) from an address (0).
const (
	tagBits = 2
	tagMask = 1<<tagBits - 1
	intTag  = 1
	addrTag = 0
)

// word has a type of its own so that what it says is asked of it in one place.
type word int64

func (w word) isNil() bool { return w == Nil }

func (w word) isInt() bool {
	return w&tagMask == intTag && intInRange(w.number())
}

func (w word) isAddr() bool {
	return w&tagMask == addrTag && addrInRange(w.address())
}

// number and address shift, rather than take the tag away first, so that no word wraps round.
func (w word) number() int64 { return int64(w >> tagBits) }

// An address is kept one higher, so that the word 0 leads nowhere.
func (w word) address() int64 { return int64(w>>tagBits) - 1 }

func (w word) isOneOf(kinds ...func(word) bool) bool {
	for _, is := range kinds {
		if is(w) {
			return true
		}
	}
	return false
}

func intInRange(n int64) bool { return -MaxInt <= n && n <= MaxInt }

func addrInRange(a int64) bool { return 0 <= a && a <= MaxAddr }

// told reads only where the word is of that kind: elsewhere its reading means nothing.
func told(is func() bool, read func() int64) (int64, bool) {
	if !is() {
		return 0, false
	}
	return read(), true
}

func WordOk(w int64) bool {
	return word(w).isOneOf(word.isNil, word.isInt, word.isAddr)
}

func OfInt(n int64) int64 {
	if !intInRange(n) {
		return Nil
	}
	return n<<tagBits | intTag
}

func OfAddr(a int64) int64 {
	if !addrInRange(a) {
		return Nil
	}
	return (a+1)<<tagBits | addrTag
}

func IntOf(w int64) (int64, bool) {
	x := word(w)
	return told(x.isInt, x.number)
}

func AddrOf(w int64) (int64, bool) {
	x := word(w)
	return told(x.isAddr, x.address)
}
