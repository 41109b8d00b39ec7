package machine

import (
	"slices"

	"quill/api"
)

// AddCode gives a function's code its number.
func (m *Machine) AddCode(n api.Node) int {
	if !m.there() {
		return 0
	}
	m.codes = append(m.codes, n)
	return len(m.codes)
}

// Code is a code.
func (m *Machine) Code(n int) (api.Node, bool) {
	if !m.there() || n < 1 || n > len(m.codes) {
		return api.Node{}, false
	}
	return m.codes[n-1], true
}

// AddEnv makes an environment.
func (m *Machine) AddEnv(e api.Env) (int, api.Done) {
	if !m.on() || !m.heap.Take(1+len(e.Names)) {
		return 0, m.Stop()
	}
	m.envs = append(m.envs, copied(e))
	return len(m.envs) - 1, api.Done{}
}

// copied is an environment with a list of its own.
func copied(e api.Env) api.Env {
	e.Names = slices.Clone(e.Names)
	return e
}

// isEnv tells whether a number is an environment's.
func (m *Machine) isEnv(n int) bool { return m.there() && n >= 0 && n < len(m.envs) }

// Env is an environment.
func (m *Machine) Env(n int) (api.Env, bool) {
	if !m.isEnv(n) {
		return api.Env{}, false
	}
	return copied(m.envs[n]), true
}

// SetEnv turns an environment.
func (m *Machine) SetEnv(n int, e api.Env) api.Done {
	switch {
	case !m.on():
		return m.Stop()
	case !m.isEnv(n):
		return api.Done{}
	}
	if more := len(e.Names) - len(m.envs[n].Names); more > 0 && !m.heap.Take(more) {
		return m.Stop()
	}
	m.envs[n] = copied(e)
	return api.Done{}
}

// Envs is how many environments there are.
func (m *Machine) Envs() int {
	if !m.there() {
		return 0
	}
	return len(m.envs)
}
