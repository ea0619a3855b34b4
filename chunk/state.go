package chunk

import "sallyport/api"

// state tells what must come next.
type state int

// Each CR and each LF stands right ahead of what must come behind it, so that a byte that is right makes the state one more.
const (
	unmade state = iota // of a reader that no call made

	chunkCR // behind a chunk's bytes
	chunkLF
	sizeFirst // a size's first digit, or the 0 of the end

	sizeMore // another digit of a size, or the CR behind it
	sizeLF
	chunkBytes

	zeroCR // behind the 0 of the end
	zeroLF
	endCR // of the end's empty line
	endLF
	ended // nothing belongs to the chunked body any more
)

// sevenDigits is the least number that has seven digits to the base 16, since none of them is a 0 at the front: an eighth one may not be.
const sevenDigits = 1 << 24

// step reads at the front of b, which has a byte at least: how many bytes it went on by (none only at what is wrong), and those of the body among them, which are still b's own. A size is at least 1, so that behind its end the chunk's bytes follow at once.
func (r *Reader) step(b []byte) (int, []byte) {
	next, used := b[0], 0
	switch r.state {
	case sizeFirst:
		return r.beginSize(next), nil
	case sizeMore:
		return r.goOnSize(next), nil
	case sizeLF:
		used = r.pass(next, '\n')
		if used == 0 {
			return 0, nil
		}
		fallthrough
	case chunkBytes:
		body := r.takeBytes(b[used:])
		return used + len(body), body
	case zeroCR:
		if _, ok := digit(next); ok {
			return r.stop(api.ErrSize), nil
		}
		fallthrough
	case chunkCR, endCR:
		return r.pass(next, '\r'), nil
	default:
		return r.pass(next, '\n'), nil
	}
}

// beginSize takes a 0 for the end: no size begins by one.
func (r *Reader) beginSize(next byte) int {
	value, ok := digit(next)
	switch {
	case !ok:
		return r.stop(api.ErrSize)
	case value == 0:
		r.state = zeroCR
	default:
		r.state = sizeMore
	}
	r.left = value
	return 1
}

// goOnSize asks only at the CR whether a size is too great: until then the byte that came is more wrong than the size.
func (r *Reader) goOnSize(next byte) int {
	value, ok := digit(next)
	switch {
	case ok && r.left >= sevenDigits:
		return r.stop(api.ErrSize)
	case ok:
		r.left = 16*r.left + value
		return 1
	case next == '\r' && r.left > MaxBody-r.body:
		return r.stop(api.ErrSize)
	}
	return r.pass(next, '\r')
}

// takeBytes goes on by nothing where b is over.
func (r *Reader) takeBytes(b []byte) []byte {
	body := b[:min(r.left, len(b))]
	r.left -= len(body)
	if r.left == 0 {
		r.state = chunkCR
	}
	return body
}

// pass goes on by the one byte that must come.
func (r *Reader) pass(next, must byte) int {
	if next != must {
		return r.stop(api.ErrEnd)
	}
	r.state++
	return 1
}

// stop goes on by nothing, and lets nothing more be read.
func (r *Reader) stop(e api.Errno) int {
	r.wrong = e
	return 0
}

// digit is a digit's value to the base 16.
func digit(c byte) (int, bool) {
	switch {
	case '0' <= c && c <= '9':
		return int(c - '0'), true
	case 'a' <= c && c <= 'f':
		return int(c-'a') + 10, true
	case 'A' <= c && c <= 'F':
		return int(c-'A') + 10, true
	}
	return 0, false
}
