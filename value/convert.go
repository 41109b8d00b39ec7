package value

import (
	"quill/api"
	"quill/numtext"
	"quill/ustr"
)

// ToBoolean is a value's truth.
func ToBoolean(v api.Value) bool {
	switch v.Kind {
	case api.KindBool:
		return v.B
	case api.KindNumber:
		return v.N < 0 || v.N > 0
	case api.KindString:
		return v.S != ""
	}
	return v.Kind == api.KindObject
}

// ToNumber is a value's number.
func ToNumber(v api.Value) (float64, api.Errno) {
	switch v.Kind {
	case api.KindUndefined:
		return nan(), api.OK
	case api.KindNull:
		return 0, api.OK
	case api.KindBool:
		if v.B {
			return 1, api.OK
		}
		return 0, api.OK
	case api.KindNumber:
		return told(v.N), api.OK
	case api.KindString:
		return numtext.Number(v.S), api.OK
	}
	return 0, api.ErrArg
}

// ToString is a value's text.
func ToString(v api.Value) (string, api.Errno) {
	switch v.Kind {
	case api.KindUndefined:
		return ustr.Wide("undefined"), api.OK
	case api.KindNull:
		return ustr.Wide("null"), api.OK
	case api.KindBool:
		if v.B {
			return ustr.Wide("true"), api.OK
		}
		return ustr.Wide("false"), api.OK
	case api.KindNumber:
		return numtext.Text(v.N), api.OK
	case api.KindString:
		return v.S, api.OK
	}
	return "", api.ErrArg
}
