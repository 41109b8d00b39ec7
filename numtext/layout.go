package numtext

import (
	"strconv"
	"strings"
)

// pointed is digits with a point ahead of the last ones, so many; noughts stand
// ahead of them, so that a digit at least is ahead of the point.
func pointed(digits string, last int) string {
	if last == 0 {
		return digits
	}
	digits = strings.Repeat("0", max(last+1-len(digits), 0)) + digits
	at := len(digits) - last
	return digits[:at] + "." + digits[at:]
}

// scientific is digits with a point behind the first one, and an exponent of 10.
func scientific(digits string, e int) string {
	sign := "e+"
	if e < 0 {
		sign, e = "e-", -e
	}
	if len(digits) > 1 {
		digits = digits[:1] + "." + digits[1:]
	}
	return digits + sign + strconv.Itoa(e)
}
