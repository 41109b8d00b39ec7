package early

import "quill/api"

// part tells whether one of a node's Kids may not stand there, for what the node or the
// Kids ahead of it are. It is asked of each in order, once.
type part func(i int, x *api.Node) bool

// parts is what tells of a node's Kids.
func parts(n *api.Node) part {
	switch n.Kind {
	case api.NodeAssign, api.NodePostfix:
		return target
	case api.NodeUnary:
		if n.Op == "++" || n.Op == "--" {
			return target
		}
	case api.NodeForIn:
		if n.Kids[0].Kind != api.NodeVar {
			return target
		}
	case api.NodeFunction, api.NodeDeclare:
		return parameters()
	case api.NodeObject:
		return properties()
	}
	return anything
}

// anything tells nothing against Kids.
func anything(int, *api.Node) bool { return false }

// target tells of the first one whether it may be assigned to.
func target(i int, x *api.Node) bool {
	if i > 0 {
		return false
	}
	switch x.Kind {
	case api.NodeName:
		return restricted(x.Str)
	case api.NodeMember, api.NodeIndex, api.NodeCall:
		return false
	}
	return true
}

// parameters tells of names whether they are restricted, or came ahead.
func parameters() part {
	met := map[string]struct{}{}
	return func(_ int, x *api.Node) bool {
		if x.Kind != api.NodeName {
			return false
		}
		_, again := met[x.Str]
		met[x.Str] = struct{}{}
		return again || restricted(x.Str)
	}
}

// The kinds of properties that an object may have under a key.
const (
	hasValue = 1 << iota
	hasGetter
	hasSetter
)

// properties tells of an object's whether one that came ahead has the same key, and is
// not the other one of a getter and a setter.
func properties() part {
	keys := map[string]int{}
	return func(_ int, x *api.Node) bool {
		own, others := hasValue, hasValue|hasGetter|hasSetter
		switch x.Kind {
		case api.NodeGetter:
			own, others = hasGetter, hasValue|hasGetter
		case api.NodeSetter:
			own, others = hasSetter, hasValue|hasSetter
		}
		met := keys[x.Str]
		keys[x.Str] = met | own
		return met&others != 0
	}
}
