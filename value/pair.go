package value

import (
	"quill/api"
	"quill/number"
	"quill/ustr"
)

// Strict is ===.
//
// Floats are held against each other as layer 4's Equal does it, so the wholes are
// alike just where the values are.
func Strict(x, y api.Value) bool { return x == y }

// Same is SameValue.
func Same(x, y api.Value) bool {
	if x.Kind == api.KindNumber && y.Kind == api.KindNumber {
		return number.Same(x.N, y.N)
	}
	return x == y
}

// Loose is == of what are no objects.
func Loose(x, y api.Value) (bool, api.Errno) {
	if x.Kind == y.Kind {
		return Strict(x, y), api.OK
	}
	if absent(x) || absent(y) {
		return absent(x) && absent(y), api.OK
	}
	a, b, errno := both(x, y, ToNumber)
	if errno != api.OK {
		return false, errno
	}
	return number.Equal(a, b), api.OK
}

// absent tells whether a value is undefined or null.
func absent(v api.Value) bool { return v.Kind == api.KindUndefined || v.Kind == api.KindNull }

// both is what is told of x and of y, or the first error.
func both[T any](x, y api.Value, tell func(api.Value) (T, api.Errno)) (T, T, api.Errno) {
	var none T
	a, errno := tell(x)
	if errno != api.OK {
		return none, none, errno
	}
	b, errno := tell(y)
	if errno != api.OK {
		return none, none, errno
	}
	return a, b, api.OK
}

// Less is <, of what are no objects: 1, 0, or -1, if neither way.
func Less(x, y api.Value) (int, api.Errno) {
	if x.Kind == api.KindString && y.Kind == api.KindString {
		if ustr.Compare(x.S, y.S) < 0 {
			return 1, api.OK
		}
		return 0, api.OK
	}
	a, b, errno := both(x, y, ToNumber)
	if errno != api.OK {
		return 0, errno
	}
	return number.Less(a, b), api.OK
}

// Add is + of what are no objects.
func Add(x, y api.Value) (api.Value, api.Errno) {
	if x.Kind == api.KindString || y.Kind == api.KindString {
		s, t, errno := both(x, y, ToString)
		if errno != api.OK {
			return api.Value{}, errno
		}
		return String(s + t), api.OK
	}
	a, b, errno := both(x, y, ToNumber)
	if errno != api.OK {
		return api.Value{}, errno
	}
	return Number(a + b), api.OK
}
