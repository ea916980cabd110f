package ident_test

import (
	"math/rand"
	"strings"
	"testing"

	"outlaw/api"
	"outlaw/ident"
)

const (
	digits   = "0123456789"
	lowers   = "abcdefghijklmnopqrstuvwxyz"
	uppers   = "ABCDEFGHIJKLMNOPQRSTUVWXYZ"
	letters  = lowers + uppers
	ofServer = letters + digits + ".-"
	ofUser   = lowers + digits + "._=-/+"
	ofRoom   = letters + digits + "._-"
	ofEvent  = letters + digits + "_-.~/"
)

// All bytes, in the middle of each kind of name, and in each of its parts.
func TestP4_1Bytes(t *testing.T) {
	for c := range 256 {
		b := string([]byte{byte(c)})
		in := func(set string) bool { return strings.Contains(set, b) }
		for _, x := range []struct {
			what string
			s    string
			got  func(string) bool
			want bool
		}{
			{"server", "a" + b + "z", ident.Server, in(ofServer)},
			{"server alone", b, ident.Server, in(ofServer)},
			{"port", "a:1" + b + "2", ident.Server, in(digits)},
			{"user", "@a" + b + "z:s", ident.User, in(ofUser)},
			{"user alone", "@" + b + ":s", ident.User, in(ofUser)},
			{"server of a user", "@a:a" + b + "z", ident.User, in(ofServer)},
			{"room", "!a" + b + "z:s", ident.Room, in(ofRoom)},
			{"server of a room", "!a:a" + b + "z", ident.Room, in(ofServer)},
			{"event", "$a" + b + "z", ident.EventID, in(ofEvent)},
			{"sign of a user", b + "a:s", ident.User, b == "@"},
			{"sign of a room", b + "a:s", ident.Room, b == "!"},
			{"sign of an event", b + "a", ident.EventID, b == "$"},
		} {
			if got := x.got(x.s); got != x.want {
				t.Errorf("%s: %q is %v", x.what, x.s, got)
			}
		}
	}
}

func TestP4_1Kinds(t *testing.T) {
	n := func(k int) string { return strings.Repeat("a", k) }
	for s, want := range map[string]int{
		"@a:B.org": api.IdentUser, "!r:x:80": api.IdentRoom, "$e": api.IdentEvent, "x.org": api.IdentServer,
		"@A:b": 0, "@a:": 0, "": 0, "@": 0, "!": 0, "$": 0, ":": 0, "@:s": 0, "!:s": 0, "@a": 0, "!a": 0, "a:": 0, ":1": 0, "@:": 0, "a:b": 0,
		"a:1": api.IdentServer, "a:12345": api.IdentServer, "a:123456": 0, "a:00000": api.IdentServer, "a:1:2": 0, "a::1": 0, "-": api.IdentServer, ".": api.IdentServer,
		"1": api.IdentServer, "a:1 ": 0, " a": 0, "a\n": 0, "[::1]": 0, "a_b": 0, "\u00e9": 0, "a:-1": 0, "a:1.": 0,
		"@a:s:1": api.IdentUser, "@a:s:12345": api.IdentUser, "@a:s:123456": 0, "@a:s:": 0, "@a:b:c": 0, "@@a:s": 0, "@a@b:s": 0, "!a!:s": 0, "@0:S-1.": api.IdentUser,
		"!R_1.-:S": api.IdentRoom, "!a:s:99999": api.IdentRoom, "!a:s:": 0, "!a/b:s": 0, "!a:s:x": 0, "@a:s ": 0, " @a:s": 0, "@a b:s": 0,
		"$A_-.~/9": api.IdentEvent, "$a:s": 0, "$a$": 0, "$$": 0, "$a b": 0, "$\u00e9": 0, "#a:s": 0, "a$": 0,
		n(128): api.IdentServer, n(129): 0, n(126) + ":1": api.IdentServer, n(127) + ":1": 0, n(122) + ":12345": api.IdentServer, n(123) + ":12345": 0,
		"@" + n(125) + ":" + n(128): api.IdentUser, "@" + n(126) + ":" + n(128): 0, "@a:" + n(128): api.IdentUser, "@a:" + n(129): 0, "@" + n(252) + ":s": api.IdentUser, "@" + n(253) + ":s": 0,
		"!" + n(125) + ":" + n(128): api.IdentRoom, "!" + n(126) + ":" + n(128): 0, "!a:" + n(129): 0, "!" + n(252) + ":s": api.IdentRoom, "!" + n(253) + ":s": 0,
		"$" + n(64): api.IdentEvent, "$" + n(65): 0,
	} {
		if got := ident.Kind(s); got != want {
			t.Errorf("Kind(%q) = %d, want %d", s, got, want)
		}
		got := [4]bool{ident.User(s), ident.Room(s), ident.EventID(s), ident.Server(s)}
		for i, is := range got {
			if is != (want == i+1) {
				t.Errorf("%q is of kind %d: %v", s, i+1, is)
			}
		}
	}
}

func TestP4_2ServerOf(t *testing.T) {
	for user, want := range map[string]string{
		"@a:B.org": "b.org", "@a:s": "s", "@a:X:80": "x:80", "@a:ABCXYZ-.09": "abcxyz-.09", "@a.b=c:S": "s",
		"": "", "@A:b": "", "@a:": "", "@a": "", "a:b": "", "!a:b": "", "b.org": "", "$e": "", "@a:b c": "", "@a:s:": "",
	} {
		if got, is := ident.ServerOf(user); got != want || is != (want != "") {
			t.Errorf("ServerOf(%q) = %q, %v", user, got, is)
		}
	}
}

func TestP4_2Lower(t *testing.T) {
	for c := range 256 {
		want := byte(c)
		if want >= 'A' && want <= 'Z' {
			want += 32
		}
		if got := ident.Lower(string([]byte{'x', byte(c), 'A'})); got != string([]byte{'x', want, 'a'}) {
			t.Errorf("Lower of the byte %d: %q", c, got)
		}
	}
	for s, want := range map[string]string{"": "", "AZaz@[`{": "azaz@[`{", "\u00c9\u212a\xffB": "\u00c9\u212a\xffb"} {
		if got := ident.Lower(s); got != want {
			t.Errorf("Lower(%q) = %q", s, got)
		}
	}
}

func TestP4_3(t *testing.T) {
	r := rand.New(rand.NewSource(8))
	found := map[int]int{}
	for range 100000 {
		b := make([]byte, r.Intn(9))
		for i := range b {
			b[i] = "@!$:aA1.-_ "[r.Intn(11)]
		}
		if r.Intn(2) == 0 && len(b) > 3 {
			b[0], b[2] = "@!$"[r.Intn(3)], ':'
		}
		s := string(b)
		kinds := 0
		for _, is := range []bool{ident.User(s), ident.Room(s), ident.EventID(s), ident.Server(s)} {
			if is {
				kinds++
			}
		}
		k := ident.Kind(s)
		found[k]++
		if kinds > 1 || (kinds == 1) != (k != api.IdentNone) {
			t.Fatalf("%q is of %d kinds, Kind %d", s, kinds, k)
		}
		low := ident.Lower(s)
		if ident.Lower(low) != low || strings.ContainsAny(low, uppers) {
			t.Fatalf("Lower(%q) = %q", s, low)
		}
		if server, is := ident.ServerOf(s); is != (k == api.IdentUser) || is && (!ident.Server(server) || ident.Lower(server) != server || !strings.HasSuffix(low, ":"+server)) {
			t.Fatalf("ServerOf(%q) = %q, %v", s, server, is)
		}
	}
	if len(found) != 5 {
		t.Errorf("not all kinds were tried: %v", found)
	}
}
