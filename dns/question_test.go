package dns_test

import (
	"testing"

	"sallyport/api"
	"sallyport/dns"
)

// 10.2: a question is read, in letters of any size, whatever stands behind it.
func TestQuestion(t *testing.T) {
	wantQuestion(t, "\x00\x07\x01\x00\x00\x01\x00\x00\x00\x00\x00\x00\x01a\x01b\x00\x00\x01\x00\x01", query(7, "a.b"))
	wantQuestion(t, top(0, 0, 0)+asked("a"), query(0, "a"))
	wantQuestion(t, top(65535, asking, 0)+asked("Example.COM"), query(65535, "example.com"))
	wantQuestion(t, top(258, asking, 0)+asked(longName(api.MaxName)), query(258, longName(api.MaxName)))
}

// 10.2: a question's name may stand in part ahead of it, in the head itself.
func TestQuestionLeadsIntoTheHead(t *testing.T) {
	b := two(0x0161) + two(0) + two(1) + two(0) + two(0) + two(0) + lead(0) + two(1) + two(1)
	wantQuestion(t, b, query(0x0161, "a"))
	wantQuestion(t, b[:12]+"\x01Z"+b[12:], query(0x0161, "z.a"))
	wantQuestionRefused(t, b[:12]+lead(12)+two(1)+two(1), 12, api.ErrLoop)
	wantQuestionRefused(t, b[:12]+lead(2)+two(1)+two(1), 12, api.ErrHost)
}

// wantBoth wants both readers to refuse a message alike, whose highest flag is set as each of them asks.
func wantBoth(t *testing.T, id, flags int, behind string, place int, number api.Errno) {
	t.Helper()
	wantQuestionRefused(t, two(id)+two(flags&^0x8000)+behind, place, number)
	wantAnswerRefused(t, two(id)+two(flags|0x8000)+behind, place, number)
}

// 10.2, 10.3: messages of 0 bytes and more, up to a head, and cut behind each byte: what lacks is told at the length.
func TestCutQuestions(t *testing.T) {
	wantQuestionRefused(t, "", 0, api.ErrShort)
	wantAnswerRefused(t, "", 0, api.ErrShort)
	if _, err := dns.Question(nil); err == nil {
		t.Errorf("Question of nil is read")
	}
	for _, flags := range []int{asking, answering} {
		for _, name := range []string{"a", "a.b", longName(api.MaxName)} {
			b := top(7, flags, 0) + asked(name)
			for size := range len(b) {
				switch {
				case size < 4:
					wantQuestionRefused(t, b[:size], size, api.ErrShort)
					wantAnswerRefused(t, b[:size], size, api.ErrShort)
				case flags == asking:
					wantQuestionRefused(t, b[:size], size, api.ErrShort)
					wantAnswerRefused(t, b[:size], 2, api.ErrKind)
				default:
					wantQuestionRefused(t, b[:size], 2, api.ErrKind)
					wantAnswerRefused(t, b[:size], size, api.ErrShort)
				}
			}
		}
	}
}

// 10.2, 10.3: messages of MaxGram bytes, and of more: these are refused for that, whatever is wrong with them besides.
func TestLongMessages(t *testing.T) {
	question, answer := top(7, asking, 0)+asked("a"), reply("a", 1, addresses(1, 60))
	for _, fill := range []byte{0, 'x', 0xff} {
		wantQuestion(t, question+many(api.MaxGram-len(question), fill), query(7, "a"))
		wantAnswer(t, answer+many(api.MaxGram-len(answer), fill), told("a", 60, 1))
	}
	for _, size := range []int{api.MaxGram + 1, api.MaxGram + 2, 2 * api.MaxGram, api.MaxBytes, api.MaxBytes + 1} {
		for _, b := range []string{"", question, answer, reply("a", 60), top(7, asking, 0) + "\x80", two(7) + "\xff\xff"} {
			wantQuestionRefused(t, b+many(size-len(b), 0), api.MaxGram, api.ErrLong)
			wantAnswerRefused(t, b+many(size-len(b), 0), api.MaxGram, api.ErrLong)
		}
	}
}

// 10.2, 10.3: each bit of the flags, alone and with all others that may be set: bit 15 must be as the reader asks, 9 and 11 to 14 must not be set.
func TestFlags(t *testing.T) {
	for bit := range 16 {
		for _, others := range []int{0, 0x05f0} {
			flags := 1<<bit | others
			b := two(7) + two(flags) + two(1) + two(0) + two(0) + two(0) + asked("a")
			switch {
			case bit == 15:
				wantQuestionRefused(t, b, 2, api.ErrKind)
				wantAnswer(t, b, told("a", 0))
				continue
			case bit == 9 || bit >= 11:
				wantBoth(t, 7, flags, b[4:], 2, api.ErrKind)
				wantBoth(t, 7, flags, "", 2, api.ErrKind)
				continue
			}
			wantQuestion(t, b, query(7, "a"))
			want := told("a", 0)
			want.Code = flags & 15
			wantAnswer(t, two(7)+two(flags|0x8000)+b[4:], want)
			wantAnswerRefused(t, b, 2, api.ErrKind)
		}
	}
}

// 10.2, 10.3: no question, two of them, and more, as soon as their number is there; then what is wrong behind it is not told.
func TestHowManyQuestions(t *testing.T) {
	for _, questions := range []int{0, 2, 3, 255, 256, 257, 0x0101, 0x8001, 65535} {
		for _, behind := range []string{"", "\x00", many(6, 0), many(6, 0) + asked("a"), many(6, 0) + asked("a") + asked("a"), many(6, 0) + "\x40"} {
			wantBoth(t, 7, asking, two(questions)+behind, 4, api.ErrKind)
		}
	}
	wantBoth(t, 7, asking, "", 4, api.ErrShort)
	wantBoth(t, 7, asking, "\x00", 5, api.ErrShort)
	wantBoth(t, 7, asking, "\xff", 5, api.ErrShort)
}

// 10.2, 10.3: questions for another type or class, told at the type's place; a wrong type is told without the class.
func TestTypesAndClasses(t *testing.T) {
	for _, name := range []string{"a", "a.b", longName(api.MaxName)} {
		b := two(1) + many(6, 0) + whole(name)
		place := questionAt + len(name) + 2
		for _, other := range []int{0, 2, 5, 28, 255, 256, 257, 65535} {
			wantBoth(t, 7, asking, b+two(other)+two(1), place, api.ErrKind)
			wantBoth(t, 7, asking, b+two(1)+two(other), place, api.ErrKind)
			wantBoth(t, 7, asking, b+two(other)+two(other), place, api.ErrKind)
			wantBoth(t, 7, asking, b+two(other), place, api.ErrKind)
			wantBoth(t, 7, asking, b+two(other)+"\x00", place, api.ErrKind)
			wantBoth(t, 7, asking, b+two(other)[:1], place+1, api.ErrShort)
			wantBoth(t, 7, asking, b+two(1)+two(other)[:1], place+3, api.ErrShort)
		}
	}
	wantBoth(t, 7, asking, two(1)+many(6, 0)+"\x015\x00"+two(2)+two(2), questionAt, api.ErrHost) // the name's fault stands ahead of it
}

// 10.2, 10.3: what is wrong with a question's name, at its place in the message.
func TestQuestionNames(t *testing.T) {
	ahead := two(1) + many(6, 0)
	for _, c := range []struct {
		name   string
		place  int
		number api.Errno
	}{
		{"\x00", 12, api.ErrHost},
		{"\x01a\x011\x00", 12, api.ErrHost},
		{whole(longName(api.MaxName + 1)), 12, api.ErrHost},
		{"\x01-\x00", 12, api.ErrLabel},
		{"\x01a\x01-\x00", 14, api.ErrLabel},
		{"\x01a\x40", 14, api.ErrLabel},
		{"\x01a\x80", 14, api.ErrLabel},
		{"\x01a\xc0\x0c", 14, api.ErrLoop},
		{"\x01a\xc0\x0d", 14, api.ErrLoop},
		{"\xc0\x0c", 12, api.ErrLoop},
		{"\x01a\x02b", 16, api.ErrShort},
		{"\x01a\xc0", 15, api.ErrShort},
		{"\x01a", 14, api.ErrShort},
	} {
		wantBoth(t, 7, asking, ahead+c.name, c.place, c.number)
		if c.number != api.ErrShort {
			wantBoth(t, 7, asking, ahead+c.name+two(1)+two(1), c.place, c.number)
			wantBoth(t, 7, asking, ahead+c.name+two(2)+two(2)+many(9, 'x'), c.place, c.number)
		}
	}
}

// 10.2: a question's answers, authorities and others are not looked at, whatever their numbers say.
func TestQuestionAlone(t *testing.T) {
	for _, number := range []int{0, 1, 2, 256, 65535} {
		for _, code := range []int{0, 1, 15} {
			b := two(7) + two(asking|code) + two(1)
			wantQuestion(t, b+two(number)+two(0)+two(0)+asked("a"), query(7, "a"))
			wantQuestion(t, b+two(0)+two(number)+two(0)+asked("a"), query(7, "a"))
			wantQuestion(t, b+two(0)+two(0)+two(number)+asked("a"), query(7, "a"))
		}
	}
}
