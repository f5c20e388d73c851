package sign

import (
	"strconv"

	"covey/api"
	"covey/benc"
	"covey/hash"
)

const (
	mostSalt   = 64
	mostNumber = 1 << 40
	mostValue  = 1000
)

// part is a part of an item with the function that asks it.
type part struct {
	name string
	ask  func(i api.Item) api.Errno
}

// parts are the parts of an item in the order in which they are asked; the signature is the last one.
func parts() [5]part {
	return [5]part{{"key", askKey}, {"salt", askSalt}, {"number", askNumber}, {"value", askValue}, {"sign", askSign}}
}

// when returns an error if it applies.
func when(wrong bool, e api.Errno) api.Errno {
	if wrong {
		return e
	}
	return api.OK
}

func askKey(i api.Item) api.Errno { return when(!ValidKey(i.Key), api.ErrInvalid) }

func askSalt(i api.Item) api.Errno { return when(len(i.Salt) > mostSalt, api.ErrLong) }

func askNumber(i api.Item) api.Errno {
	return when(i.Number < 0 || i.Number > mostNumber, api.ErrRange)
}

func askValue(i api.Item) api.Errno {
	if len(i.Value) > mostValue {
		return api.ErrLong
	}
	_, e := benc.Parse(i.Value)
	return e
}

func askSign(i api.Item) api.Errno { return when(!Fits(i.Key, text(i), i.Sign), api.ErrSign) }

// Wrong returns the first thing that is wrong with an item.
func Wrong(i api.Item) (name string, e api.Errno) {
	for _, p := range parts() {
		if e := p.ask(i); e != api.OK {
			return p.name, e
		}
	}
	return "", api.OK
}

// Valid reports whether an item's form is right and its signature fits.
func Valid(i api.Item) bool {
	_, e := Wrong(i)
	return e == api.OK
}

// askForm asks all of an item but its signature.
func askForm(i api.Item) {
	for _, p := range parts() {
		refuse(p.name != "sign" && p.ask(i) != api.OK, api.ErrInvalid)
	}
}

func bencText(s string) string { return strconv.Itoa(len(s)) + ":" + s }

// text is the signed text of an item.
func text(i api.Item) string {
	out := ""
	if i.Salt != "" {
		out = "4:salt" + bencText(i.Salt)
	}
	return out + "3:seqi" + strconv.Itoa(i.Number) + "e1:v" + i.Value
}

// Text is the signed text of an item.
func Text(i api.Item) (string, api.Errno) {
	return attempt(func() string {
		askForm(i)
		return text(i)
	})
}

// Make signs an item.
func Make(secret int, salt string, number int, value string) (api.Item, api.Errno) {
	return attempt(func() api.Item {
		i := api.Item{Salt: salt, Number: number, Value: value}
		refuse(askSalt(i) != api.OK, api.ErrLong)
		refuse(askValue(i) != api.OK, api.ErrInvalid)
		askSecret(secret)
		refuse(askNumber(i) != api.OK, api.ErrRange)
		i.Key = key(secret)
		i.Sign = sign(secret, text(i))
		return i
	})
}

// Place is the place of the items of a key and a salt.
func Place(key, salt string) (string, api.Errno) {
	return attempt(func() string {
		refuse(len(salt) > mostSalt, api.ErrLong)
		refuse(!ValidKey(key), api.ErrInvalid)
		return hash.Old(key + salt)
	})
}

// Plain is the place of a plain item.
func Plain(value string) (string, api.Errno) {
	return attempt(func() string {
		refuse(len(value) > mostValue, api.ErrLong)
		_, e := benc.Parse(value)
		refuse(e != api.OK, api.ErrSyntax)
		return hash.Old(value)
	})
}

func alike(a, b api.Item) bool { return a.Key == b.Key && a.Salt == b.Salt }

// Replace asks whether a new item may come in the place of an old one.
func Replace(old, new api.Item, expected int) api.Errno {
	_, e := attempt(func() bool {
		askForm(old)
		askForm(new)
		refuse(askSign(new) != api.OK, api.ErrSign)
		refuse(!alike(old, new), api.ErrKind)
		refuse(expected >= 0 && expected != old.Number, api.ErrState)
		if new != old {
			refuse(new.Number < old.Number || new.Number == old.Number && new.Value != old.Value, api.ErrOld)
		}
		return true
	})
	return e
}

// Latest returns the item with the greatest Number of those whose signatures fit.
func Latest(l []api.Item) (api.Item, api.Errno) {
	return attempt(func() api.Item {
		for _, i := range l {
			askForm(i)
		}
		best := -1
		for k, i := range l {
			refuse(!alike(i, l[0]), api.ErrKind)
			if askSign(i) == api.OK && (best < 0 || i.Number > l[best].Number) {
				best = k
			}
		}
		refuse(best < 0, api.ErrNone)
		return l[best]
	})
}
