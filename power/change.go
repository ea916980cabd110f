package power

import (
	"slices"
	"strings"

	"outlaw/api"
)

// Change reports whether a user, by the levels old, may replace them by now.
func Change(old, now api.Levels, user string) bool {
	if Check(old) != api.OK || Check(now) != api.OK {
		return false
	}
	own := Of(old, user)
	return numbersMayChange(old, now, own) && usersMayChange(old, now, user, own) && typesMayChange(old, now, own)
}

func numbersMayChange(old, now api.Levels, own int64) bool {
	for _, number := range numbers() {
		was, is := number(levels(old)), number(levels(now))
		if was != is && max(was, is) > own {
			return false
		}
	}
	return true
}

func usersMayChange(old, now api.Levels, user string, own int64) bool {
	for _, u := range slices.Concat(old.Users, now.Users) {
		was, had := userLevel(old, u.User)
		is, has := userLevel(now, u.User)
		if was == is && had == has {
			continue
		}
		if max(was, is) > own || was == own && u.User != user {
			return false
		}
	}
	return true
}

// userLevel returns the level of a user, and whether it has an entry; the list is sorted.
func userLevel(l api.Levels, user string) (int64, bool) {
	at, has := slices.BinarySearchFunc(l.Users, user, func(u api.UserLevel, user string) int {
		return strings.Compare(u.User, user)
	})
	if !has {
		return l.UsersDefault, false
	}
	return l.Users[at].N, true
}

func typesMayChange(old, now api.Levels, own int64) bool {
	for _, t := range slices.Concat(old.Events, now.Events) {
		was, had := typeLevel(old, t.Type)
		is, has := typeLevel(now, t.Type)
		if (was != is || had != has) && max(was, is) > own {
			return false
		}
	}
	return true
}

// typeLevel returns the level of a type, and whether it has an entry, without which the greater of the defaults counts; the list is sorted.
func typeLevel(l api.Levels, typ string) (int64, bool) {
	at, has := slices.BinarySearchFunc(l.Events, typ, func(t api.TypeLevel, typ string) int {
		return strings.Compare(t.Type, typ)
	})
	if !has {
		return max(l.StateDefault, l.EventsDefault), false
	}
	return l.Events[at].N, true
}
