package dns_test

import (
	"testing"

	"sallyport/api"
)

// 10.3: addresses of the question's name, in their order, with the name led to or written out, in letters of any size.
func TestAnswer(t *testing.T) {
	wantAnswer(t, reply("a.b", 0), told("a.b", 0))
	wantAnswer(t, reply("a.b", 1, address(toQuestion, 60, 1)), told("a.b", 60, 1))
	wantAnswer(t, reply("a.b", 3, address(toQuestion, 60, 3), address(whole("A.b"), 50, 1), address("\x01a\xc0\x0e", 70, 2)), told("a.b", 50, 3, 1, 2))
	wantAnswer(t, reply("A.B", 2, address(whole("a.b"), 60, 1), address(toQuestion, 60, 1)), told("a.b", 60, 1, 1))
	all := api.Answer{Query: query(7, "a"), TTL: 60, Addrs: []api.Addr{{A: 1, B: 2, C: 3, D: 4}, {A: 255, B: 254, C: 253, D: 252}, {}}}
	wantAnswer(t, reply("a", 3, record(toQuestion, 1, 60, "\x01\x02\x03\x04"), record(toQuestion, 1, 60, "\xff\xfe\xfd\xfc"), record(toQuestion, 1, 60, many(4, 0))), all)
}

// 10.3: the id is told as it is.
func TestAnswerIDs(t *testing.T) {
	for _, id := range []int{0, 1, 255, 256, 0x0102, 65535} {
		want := told("a", 60, 1)
		want.ID = id
		wantAnswer(t, top(id, answering, 1)+asked("a")+addresses(1, 60), want)
	}
}

// 10.3: each code; but for 0 answers are not looked at, be they right, wrong or not there.
func TestAnswerCodes(t *testing.T) {
	for code := range 16 {
		for _, flags := range []int{0x8000, answering, 0x8570} {
			for _, behind := range []string{"", addresses(2, 60), record(toQuestion, 5, 9, "-"), "\x40", "\xc0"} {
				b := top(7, flags|code, 2) + asked("a") + behind
				switch {
				case code > 0:
					want := told("a", 0)
					want.Code = code
					wantAnswer(t, b, want)
				case behind == addresses(2, 60):
					wantAnswer(t, b, told("a", 60, 1, 2))
				default:
					if _, err := readAnswer(t, b); err == nil {
						t.Errorf("Answer of %s is read", short(b))
					}
				}
			}
		}
	}
}

// 10.3: records of other names, types and classes, and of data that has not four bytes, tell nothing, nor for how long.
func TestAnswerOtherRecords(t *testing.T) {
	for _, other := range []string{
		address(whole("c"), 1, 9),
		address(whole("aa"), 1, 9),
		address(whole("a.a"), 1, 9),
		address("\x01b\xc0\x0c", 1, 9),
		record(toQuestion, 28, 1, "\x01\x02\x03\x04"),
		record(toQuestion, 0, 1, "\x01\x02\x03\x04"),
		record(toQuestion, 257, 1, "\x01\x02\x03\x04"),
		record(toQuestion, 256, 1, "\x01\x02\x03\x04"),
		record(toQuestion, 1, 1, ""),
		record(toQuestion, 1, 1, "\x01\x02\x03"),
		record(toQuestion, 1, 1, "\x01\x02\x03\x04\x05"),
		record(toQuestion, 1, 1, many(256+4, 1)),
		toQuestion + two(1) + two(3) + four(1) + two(4) + "wxyz",
		toQuestion + two(1) + two(0) + four(1) + two(4) + "wxyz",
		toQuestion + two(1) + two(257) + four(1) + two(4) + "wxyz",
		toQuestion + two(5) + two(3) + four(1) + two(3) + "\x01c\x00",
		toQuestion + two(5) + two(3) + four(1) + two(1) + "-",
		record(whole("c"), 5, 1, "\x01a\x00"),
		record(whole("c"), 5, 1, "\x40\x80\xff"),
		record(toQuestion, 16, 1, "\xc0\xff"),
	} {
		wantAnswer(t, reply("a", 1, other), told("a", 0))
		wantAnswer(t, reply("a", 2, other, address(toQuestion, 60, 1)), told("a", 60, 1))
		wantAnswer(t, reply("a", 2, address(toQuestion, 60, 1), other), told("a", 60, 1))
		wantAnswer(t, reply("a", 3, address(toQuestion, 60, 1), other, address(toQuestion, 50, 2)), told("a", 50, 1, 2))
	}
}

// alias is a record that says what the name is, its data being given as it stands in a message.
func alias(name string, seconds int, data string) string {
	return record(name, 5, seconds, data)
}

// 10.3: an alias of the question's name, and several behind one another: from there on the name that it tells is looked for, and the one ahead no more.
func TestAnswerAliases(t *testing.T) {
	toC, toD := alias(toQuestion, 9, whole("C")), alias(whole("c"), 8, whole("d"))
	wantAnswer(t, reply("a", 2, toC, address(whole("c"), 60, 1)), told("a", 9, 1))
	wantAnswer(t, reply("a", 2, toC, address(whole("c"), 5, 1)), told("a", 5, 1))
	wantAnswer(t, reply("a", 2, toC, address(toQuestion, 60, 1)), told("a", 0))
	wantAnswer(t, reply("a", 3, toC, address(toQuestion, 1, 1), address(whole("c"), 60, 2)), told("a", 9, 2))
	wantAnswer(t, reply("a", 3, toC, toD, address(whole("d"), 60, 2)), told("a", 8, 2))
	wantAnswer(t, reply("a", 4, toC, toD, address(whole("c"), 60, 1), address(whole("D"), 60, 2)), told("a", 8, 2))
	wantAnswer(t, reply("a", 3, toD, toC, address(whole("d"), 60, 2)), told("a", 0))
	wantAnswer(t, reply("a", 3, toD, toC, address(whole("c"), 60, 2)), told("a", 9, 2))
	wantAnswer(t, reply("a", 2, toC, toD), told("a", 0))
	wantAnswer(t, reply("a", 3, alias(toQuestion, 9, toQuestion), address(toQuestion, 60, 1), address(whole("a"), 60, 2)), told("a", 9, 1, 2))
	wantAnswer(t, reply("a", 3, toC, alias(whole("c"), 20, toQuestion), address(toQuestion, 60, 1)), told("a", 9, 1))
}

// 10.3: aliases behind addresses: those ahead stay, those behind are the new name's; each record that was followed counts.
func TestAnswerAliasesBehindAddresses(t *testing.T) {
	toC := alias(toQuestion, 9, whole("c"))
	wantAnswer(t, reply("a", 2, address(toQuestion, 60, 1), toC), told("a", 9, 1))
	wantAnswer(t, reply("a", 3, address(toQuestion, 60, 1), toC, address(toQuestion, 5, 2)), told("a", 9, 1))
	wantAnswer(t, reply("a", 3, address(toQuestion, 60, 1), toC, address(whole("c"), 50, 2)), told("a", 9, 1, 2))
	wantAnswer(t, reply("a", 3, address(toQuestion, 6, 1), toC, address(whole("c"), 50, 2)), told("a", 6, 1, 2))
	wantAnswer(t, reply("a", 2, address(whole("c"), 60, 1), toC), told("a", 0))
}

// 10.3: an alias's name must end where its data ends; it may lead elsewhere.
func TestAnswerAliasEnds(t *testing.T) {
	ahead := reply("a", 2)
	data := len(ahead) + len(alias(toQuestion, 9, ""))
	behind := address("\x01c\x00", 60, 1)
	for _, name := range []string{"\x01c\x00", "\x01c\xc0\x0c", toQuestion, lead(questionAt), "\x01c" + lead(questionAt)} {
		for size := range len(name) + 4 {
			b := ahead + toQuestion + two(5) + two(1) + four(9) + two(size) + name + many(max(0, size-len(name)), 'x')
			if size == len(name) {
				continue
			}
			wantAnswerRefused(t, b+"\x00"+behind, data, api.ErrShort)
		}
	}
	wantAnswer(t, ahead+alias(toQuestion, 9, "\x01c\x00")+behind, told("a", 9, 1))
	wantAnswer(t, ahead+alias(toQuestion, 9, "\x01c\xc0\x0c")+address(lead(data), 60, 1), told("a", 9, 1))
	wantAnswer(t, ahead+alias(toQuestion, 9, "\x01c\xc0\x0c")+address("\x01c\x01a\x00", 60, 1), told("a", 9, 1))
	wantAnswer(t, ahead+alias(toQuestion, 9, lead(questionAt))+address(toQuestion, 60, 1), told("a", 9, 1))
}

// 10.3: what is wrong with an alias's name, at its place; that its data is not there is found ahead of it.
func TestAnswerAliasNames(t *testing.T) {
	ahead := reply("a", 1)
	data := len(ahead) + len(alias(toQuestion, 9, ""))
	for _, c := range []struct {
		name   string
		place  int
		number api.Errno
	}{
		{"\x00", data, api.ErrHost},
		{"\x01c\x015\x00", data, api.ErrHost},
		{whole(longName(254)), data, api.ErrHost},
		{"\x01-\x00", data, api.ErrLabel},
		{"\x01c\x01-\x00", data + 2, api.ErrLabel},
		{"\x01c\x40", data + 2, api.ErrLabel},
		{"\x01c\x80", data + 2, api.ErrLabel},
		{"\x01c" + lead(data), data + 2, api.ErrLoop},
		{lead(data), data, api.ErrLoop},
		{lead(data + 9), data, api.ErrLoop},
		{"\x01c", data + 2, api.ErrShort},
		{"\x02c", data + 2, api.ErrShort},
		{"\x01c\xc0", data + 3, api.ErrShort},
		{"", data, api.ErrShort},
	} {
		b := ahead + alias(toQuestion, 9, c.name)
		wantAnswerRefused(t, b, c.place, c.number)
		for size := len(ahead); size < len(b); size++ {
			wantAnswerRefused(t, b[:size], size, api.ErrShort)
		}
	}
	wantAnswer(t, ahead+alias(whole("b"), 9, "\x01-\x00"), told("a", 0))
}

// 10.3: for how many seconds it holds: the highest bit set means 0, and MaxAge is the most that is told.
func TestAnswerSeconds(t *testing.T) {
	for seconds, ttl := range map[int]int{
		0: 0, 1: 1, 60: 60, 255: 255, 256: 256, 65535: 65535, 65536: 65536, 65537: 65537, 0x010203: 0x010203,
		api.MaxAge - 1: api.MaxAge - 1, api.MaxAge: api.MaxAge, api.MaxAge + 1: api.MaxAge, 1 << 24: api.MaxAge, 1<<31 - 1: api.MaxAge,
		1 << 31: 0, 1<<31 + 1: 0, 1<<31 + 60: 0, 1<<32 - 1: 0,
	} {
		wantAnswer(t, reply("a", 1, addresses(1, seconds)), told("a", ttl, 1))
		wantAnswer(t, reply("a", 2, address(toQuestion, 1<<30, 1), address(toQuestion, seconds, 2)), told("a", ttl, 1, 2))
		wantAnswer(t, reply("a", 2, address(toQuestion, seconds, 1), address(toQuestion, 1<<30, 2)), told("a", ttl, 1, 2))
		wantAnswer(t, reply("a", 2, alias(toQuestion, seconds, whole("c")), address(whole("c"), 1<<30, 1)), told("a", ttl, 1))
		wantAnswer(t, reply("a", 2, alias(toQuestion, seconds, whole("c")), address(toQuestion, 1, 1)), told("a", 0))
	}
}

// 10.3: the least of all records that led there.
func TestAnswerLeast(t *testing.T) {
	for _, place := range []int{0, 1, 2, 3, 4} {
		seconds := []int{60, 61, 62, 63, 64}
		seconds[place] = 5
		b := reply("a", 5, alias(toQuestion, seconds[0], whole("c")), alias(whole("c"), seconds[1], whole("d")),
			address(whole("d"), seconds[2], 1), address(whole("d"), seconds[3], 2), address(whole("d"), seconds[4], 3))
		wantAnswer(t, b, told("a", 5, 1, 2, 3))
	}
}

// 10.3: 16 addresses are told, and no more; for how long those hold that are left out counts.
func TestAnswerSixteen(t *testing.T) {
	for n := range 31 {
		want := told("a", 60, upTo(min(n, 16))...)
		if n == 0 {
			want.TTL = 0
		}
		wantAnswer(t, reply("a", n, addresses(n, 60)), want)
		if n > 0 {
			want.TTL = 5
			wantAnswer(t, reply("a", n, addresses(n-1, 60), address(toQuestion, 5, n)), want)
		}
	}
	// An alias behind them is followed, and what is wrong behind them is told.
	ahead := reply("a", 18, addresses(16, 60))
	want := told("a", 4, upTo(16)...)
	wantAnswer(t, ahead+alias(toQuestion, 9, whole("c"))+address(whole("c"), 4, 17), want)
	wantAnswerRefused(t, ahead+addresses(1, 60)+"\x40", len(ahead)+16, api.ErrLabel)
}

// 10.3: more answers told in the head than there are: bytes lack; fewer: those behind are not looked at.
func TestAnswerHowMany(t *testing.T) {
	records := addresses(3, 60)
	for n := range 4 {
		want := told("a", 60, upTo(n)...)
		if n == 0 {
			want.TTL = 0
		}
		wantAnswer(t, reply("a", n, records), want)
		wantAnswer(t, reply("a", n, records[:16*n], "\x40\x80"), want)
	}
	for _, n := range []int{4, 5, 255, 256, 65535} {
		b := reply("a", n, records)
		wantAnswerRefused(t, b, len(b), api.ErrShort)
	}
}

// 10.3: authorities and others are not looked at: they are no records, or not there.
func TestAnswerAuthoritiesAndOthers(t *testing.T) {
	for _, number := range []int{1, 2, 256, 65535} {
		for _, behind := range []string{"", "\x40", "\xc0\xff", address(toQuestion, 1, 9)} {
			for _, numbers := range []string{two(number) + two(0), two(0) + two(number), two(number) + two(number)} {
				b := two(7) + two(answering) + two(1) + two(1) + numbers + asked("a") + addresses(1, 60) + behind
				wantAnswer(t, b, told("a", 60, 1))
			}
		}
	}
}

// 10.3: each answer cut behind each of its bytes: what lacks is told at the length.
func TestAnswerCut(t *testing.T) {
	for _, b := range []string{
		reply("a.b", 1, addresses(1, 60)),
		reply("a.b", 3, address(whole("A.B"), 60, 1), record(whole("c"), 16, 1, "text"), address("\x01a\xc0\x0e", 1<<31, 2)),
		reply("a", 3, alias(toQuestion, 9, whole("c")), alias(whole("c"), 8, "\x01d\xc0\x0c"), address("\x01d\x01a\x00", 60, 2)),
		reply("a", 16, addresses(16, 60)),
		reply(longName(api.MaxName), 3, addresses(3, 60)),
	} {
		if _, err := readAnswer(t, b); err != nil {
			t.Fatalf("Answer of %s: %v", short(b), err)
		}
		for size := range len(b) {
			wantAnswerRefused(t, b[:size], size, api.ErrShort)
		}
	}
}

// 10.3: what is wrong with a record's name is told, whatever the record is, and whatever stands behind it.
func TestAnswerRecordNames(t *testing.T) {
	rest := two(28) + two(1) + four(60) + two(0)
	for _, ahead := range []string{reply("a", 1), reply("a", 2, addresses(1, 60)), reply("a", 3, alias(toQuestion, 9, whole("c")), addresses(1, 60))} {
		at := len(ahead)
		for _, c := range []struct {
			name   string
			place  int
			number api.Errno
		}{
			{"\x00", at, api.ErrHost},
			{"\x015\x00", at, api.ErrHost},
			{"\x01b\x015\x00", at, api.ErrHost},
			{whole(longName(254)), at, api.ErrHost},
			{"\x01-\x00", at, api.ErrLabel},
			{"\x01a\x01-\x00", at + 2, api.ErrLabel},
			{"\x01a\x7f", at + 2, api.ErrLabel},
			{"\x01a" + lead(at), at + 2, api.ErrLoop},
			{"\x01a" + lead(at+1), at + 2, api.ErrLoop},
			{"\x01a" + lead(500), at + 2, api.ErrLoop},
		} {
			wantAnswerRefused(t, ahead+c.name, c.place, c.number)
			wantAnswerRefused(t, ahead+c.name+rest, c.place, c.number)
			wantAnswerRefused(t, ahead+c.name+rest+"\x80", c.place, c.number)
		}
	}
}

// 10.3: of two records that are wrong the first one is told.
func TestAnswerFirstFault(t *testing.T) {
	ahead := reply("a", 2)
	ends, none := alias(toQuestion, 9, "\x01c\x00x"), alias(toQuestion, 9, "\x01-\x00") // a name that ends too soon, and none
	wantAnswerRefused(t, ahead+ends+none, len(ahead)+12, api.ErrShort)
	wantAnswerRefused(t, ahead+none+ends, len(ahead)+12, api.ErrLabel)
	wantAnswerRefused(t, ahead+ends, len(ahead)+12, api.ErrShort)
	wantAnswerRefused(t, ahead+none, len(ahead)+12, api.ErrLabel)
	wantAnswerRefused(t, ahead+addresses(1, 60)+none, len(ahead)+28, api.ErrLabel)
}

// 10.6: as many records as a message may have, and as many as a head may tell, are gone through only as far as they are there.
func TestAnswerBounded(t *testing.T) {
	for _, answers := range []int{100, 65535} {
		b := reply("a", answers) + record(toQuestion, 28, 1, "")
		for len(b)+12 <= api.MaxGram { // each name leads to the one of the record ahead of it
			b += record(lead(len(b)-12), 28, 1, "")
		}
		wantAnswerRefused(t, b, len(b), api.ErrShort)
		b += many(api.MaxGram-len(b), 0)
		if _, err := readAnswer(t, b); err == nil {
			t.Errorf("Answer of %s with %d answers is read", short(b), answers)
		}
	}
}
