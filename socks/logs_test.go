package socks_test

import (
	"testing"

	"sallyport/socks"
)

// logs is a connection that waits for a login, and of which all that was said is taken.
func logs(t *testing.T, user, pass string) *socks.Conn {
	t.Helper()
	return brought(t, user, pass, greeting(2), "")
}

// 17.1: the login that is wanted, of texts of any bytes and lengths.
func TestLogs(t *testing.T) {
	wantAlone(t, logs(t, "u", "p"), login("u", "p"), verdict0, socks.Asks)
	wantAlone(t, logs(t, "user", "pass"), login("user", "pass"), verdict0, socks.Asks)
	wantAlone(t, logs(t, many(255, 'u'), "p"), login(many(255, 'u'), "p"), verdict0, socks.Asks)
	wantAlone(t, logs(t, "u", many(255, 'p')), login("u", many(255, 'p')), verdict0, socks.Asks)
	wantAlone(t, logs(t, many(255, 'u'), many(255, 'p')), login(many(255, 'u'), many(255, 'p')), verdict0, socks.Asks)
	for n := 1; n <= 255; n++ {
		user, pass := many(n, 'u'), many(256-n, 'p')
		wantMessage(t, logs(t, user, pass), login(user, pass), 259, verdict0, socks.Asks)
	}
}

// 17.1: a login of which one text, or both, is another one.
func TestLogsOthers(t *testing.T) {
	for _, wanted := range [][2]string{{"u", "p"}, {"user", "pass"}, {"same", "same"}, {"up", "u"}, {many(254, 'u'), many(254, 'p')}, {"\x00", "\x00\x00"}} {
		user, pass := wanted[0], wanted[1]
		wrong := [][2]string{
			{"other", pass}, {user, "other"}, {"other", "other"}, {"x", "y"},
			{user + "u", pass}, {user, pass + "p"}, {user + "u", pass + "p"}, {user + "\x00", pass}, {user, pass + "\x00"},
			{user[:len(user)-1] + "\xfe", pass}, {user, pass[:len(pass)-1] + "\xfe"}, {"\xfe" + user[1:], pass}, {user, "\xfe" + pass[1:]},
			{user + "U", pass}, {many(255, 'z'), pass}, {user, many(255, 'z')}, {many(255, 'z'), many(255, 'z')},
		}
		if user != pass {
			wrong = append(wrong, [2]string{pass, user}, [2]string{user, user}, [2]string{pass, pass})
		}
		if len(user) > 1 {
			wrong = append(wrong, [2]string{user[:len(user)-1], pass}, [2]string{user[:1], pass}, [2]string{user[1:], pass})
			wrong = append(wrong, [2]string{user[:1], user[1:] + pass}, [2]string{user[:len(user)-1], user[len(user)-1:] + pass})
		}
		if len(pass) > 1 {
			wrong = append(wrong, [2]string{user, pass[:len(pass)-1]}, [2]string{user, pass[:1]}, [2]string{user, pass[1:]})
			wrong = append(wrong, [2]string{user + pass[:1], pass[1:]})
		}
		for _, w := range wrong {
			if len(w[0]) <= 255 && len(w[1]) <= 255 {
				wantMessage(t, logs(t, user, pass), login(w[0], w[1]), 3+len(w[0])+len(w[1]), verdict1, socks.Over)
			}
		}
	}
	for _, w := range [][2]string{{"u", "q"}, {"w", "p"}, {"w", "q"}, {"p", "u"}, {"uu", "p"}, {"u", "pp"}, {many(255, 'u'), many(255, 'p')}} {
		wantAlone(t, logs(t, "u", "p"), login(w[0], w[1]), verdict1, socks.Over)
	}
	for _, w := range [][2]string{{"User", "pass"}, {"user", "Pass"}, {"USER", "PASS"}, {"user ", "pass"}, {"user", " pass"}} {
		wantAlone(t, logs(t, "user", "pass"), login(w[0], w[1]), verdict1, socks.Over)
	}
}

// 17.1: a login that differs from the wanted one at one place alone, of each text, at each place.
func TestLogsEachPlace(t *testing.T) {
	user, pass := many(255, 'u'), many(255, 'p')
	right := login(user, pass)
	for place := 2; place < len(right); place++ {
		if place == 257 {
			continue
		}
		b := []byte(right)
		b[place] ^= 1
		wantMessage(t, logs(t, user, pass), string(b), len(b), verdict1, socks.Over)
	}
}

// 17.1: a login of another version, or without a user or a password, is wrong at that byte: nothing is said, and it is over.
func TestLogsWrong(t *testing.T) {
	for version := range 256 {
		if version != 1 {
			wantMessage(t, logs(t, "u", "p"), string([]byte{byte(version)}), 1, "", socks.Over)
			wantMessage(t, logs(t, "u", "p"), string([]byte{byte(version)})+login("u", "p")[1:], 5, "", socks.Over)
		}
	}
	for _, wrong := range []string{"\x00", "\x02", "\x05", "\xff", "\x01\x00", "\x01\x01u\x00", "\x01\x01w\x00", "\x01\x04user\x00", "\x01\xff" + many(255, 'u') + "\x00"} {
		wantWrong(t, logs(t, "u", "p"), wrong, "")
	}
	wantMessage(t, logs(t, "u", "p"), "\x01\x00\x00", 3, "", socks.Over)
	wantMessage(t, logs(t, "u", "p"), greeting(2), 3, "", socks.Over)
	wantMessage(t, logs(t, "u", "p"), toName(1, "a", 80), 8, "", socks.Over)
}

// 17.1: without a user no login is asked for: one that comes is wrong.
func TestNoLogin(t *testing.T) {
	wantMessage(t, brought(t, "", "", greeting(0), ""), login("u", "p"), 5, reply(1), socks.Over)
	wantMessage(t, brought(t, "", "", greeting(0, 2), ""), login("u", "p"), 5, reply(1), socks.Over)
}
