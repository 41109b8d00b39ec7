package env

import (
	"quill/api"
	"quill/machine"
)

// Find is the environment that has a name, from one outward; -1: none has. (Of a way outward
// with more steps than there are environments, some are met again: it leads round.)
func Find(m *machine.Machine, env int, name string) int {
	for range m.Envs() {
		e, ok := m.Env(env)
		switch {
		case !ok:
			return -1
		case has(m, e, name):
			return env
		}
		env = e.Outer
	}
	return -1
}

// Lookup is what a name tells, from an environment outward.
func Lookup(m *machine.Machine, env int, name string) api.Done {
	return Value(m, Find(m, env, name), name)
}

// Assign gives a name a value, from an environment outward.
func Assign(m *machine.Machine, env int, name string, v api.Value) api.Done {
	return Set(m, Find(m, env, name), name, v)
}
