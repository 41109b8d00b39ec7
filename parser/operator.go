package parser

// levelAnd is the level of &&: of those at it and below not both sides are reckoned
// always.
const levelAnd = 2

// levelOf is the level of an operator of two, from 1 on; 0 of what is none.
func levelOf(sign string) int {
	switch sign {
	case "||":
		return 1
	case "&&":
		return levelAnd
	case "|":
		return 3
	case "^":
		return 4
	case "&":
		return 5
	case "==", "!=", "===", "!==":
		return 6
	case "<", ">", "<=", ">=", "instanceof", "in":
		return 7
	case "<<", ">>", ">>>":
		return 8
	case "+", "-":
		return 9
	case "*", "/", "%":
		return 10
	}
	return 0
}

// assigns tells whether a sign is an assignment's operator.
func assigns(sign string) bool {
	switch sign {
	case "=", "*=", "/=", "%=", "+=", "-=", "<<=", ">>=", ">>>=", "&=", "^=", "|=":
		return true
	}
	return false
}

// steps tells whether a sign is an operator that counts up or down.
func steps(sign string) bool { return sign == "++" || sign == "--" }

// leads tells whether a sign is an operator that stands ahead of its operand.
func leads(sign string) bool {
	switch sign {
	case "delete", "void", "typeof", "+", "-", "~", "!":
		return true
	}
	return steps(sign)
}
