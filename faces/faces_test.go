// Package faces holds the layers' calls against the signatures that the chapters list.
package faces

import (
	"testing"

	"quill/api"
	"quill/ast"
	"quill/bignum"
	"quill/convert"
	"quill/early"
	"quill/engine"
	"quill/env"
	"quill/express"
	"quill/function"
	"quill/heap"
	"quill/lexer"
	"quill/libarray"
	"quill/libfunc"
	"quill/libjson"
	"quill/libnum"
	"quill/libobject"
	"quill/libstring"
	"quill/loop"
	"quill/machine"
	"quill/mathfn"
	"quill/number"
	"quill/numtext"
	"quill/operate"
	"quill/parser"
	"quill/property"
	"quill/realm"
	"quill/snapshot"
	"quill/source"
	"quill/state"
	"quill/ustr"
	"quill/value"
)

// A signature that is not the chapter's does not compile.

var (
	_ func(b string) (string, int, api.Errno)    = ustr.Decode
	_ func(s string) string                      = ustr.Encode
	_ func(b string) string                      = ustr.Wide
	_ func(l []uint16) string                    = ustr.Make
	_ func(s string) []uint16                    = ustr.Units
	_ func(s string) int                         = ustr.Len
	_ func(s string, i int) (uint16, bool)       = ustr.Unit
	_ func(s string, from, to int) string        = ustr.Slice
	_ func(s, t string, from int) int            = ustr.Index
	_ func(s, t string, from int) int            = ustr.LastIndex
	_ func(a, b string) int                      = ustr.Compare
	_ func(s string) string                      = ustr.Upper
	_ func(s string) string                      = ustr.Lower
	_ func(s string) string                      = ustr.Trim
	_ func(s string, n, most int) (string, bool) = ustr.Repeat
	_ func(s, sep string) []string               = ustr.Split
	_ func(l []string, sep string) string        = ustr.Join
	_ func(u uint16) bool                        = ustr.Space
	_ func(u uint16) bool                        = ustr.Ends
	_ func(u uint16) bool                        = ustr.Start
	_ func(u uint16) bool                        = ustr.Part
)

var (
	_ func(n uint64) []uint32                             = bignum.Of
	_ func(a []uint32) []uint32                           = bignum.Norm
	_ func(a, b []uint32) int                             = bignum.Cmp
	_ func(a []uint32) int                                = bignum.Bits
	_ func(a, b []uint32) ([]uint32, api.Errno)           = bignum.Add
	_ func(a, b []uint32) ([]uint32, api.Errno)           = bignum.Sub
	_ func(a, b []uint32) ([]uint32, api.Errno)           = bignum.Mul
	_ func(a, b []uint32) ([]uint32, []uint32, api.Errno) = bignum.Div
	_ func(a []uint32, n int) ([]uint32, api.Errno)       = bignum.Shl
	_ func(a []uint32, n int) ([]uint32, bool)            = bignum.Shr
	_ func(base uint32, n int) ([]uint32, api.Errno)      = bignum.Pow
	_ func(a []uint32, radix int) (string, api.Errno)     = bignum.Text
	_ func(s string, radix int) ([]uint32, api.Errno)     = bignum.Parse
	_ func(a []uint32) float64                            = bignum.Float
	_ func(x float64) ([]uint32, int, api.Errno)          = bignum.Parts
)

var (
	_ func(x float64) (string, int, api.Errno)        = numtext.Shortest
	_ func(x float64) string                          = numtext.Text
	_ func(x float64, radix int) (string, api.Errno)  = numtext.Radix
	_ func(x float64, digits int) (string, api.Errno) = numtext.Fixed
	_ func(x float64, digits int) (string, api.Errno) = numtext.Exponential
	_ func(x float64, digits int) (string, api.Errno) = numtext.Precision
	_ func(s string) float64                          = numtext.Number
	_ func(s string) (float64, bool)                  = numtext.Literal
	_ func(s string) float64                          = numtext.Float
	_ func(s string, radix int) float64               = numtext.Int
)

var (
	_ func(x float64) float64                            = number.Integer
	_ func(x float64) int32                              = number.Int32
	_ func(x float64) uint32                             = number.Uint32
	_ func(x float64) uint16                             = number.Uint16
	_ func(x float64, least, most int) int               = number.Place
	_ func(x float64) (uint32, bool)                     = number.Index
	_ func(op string, x, y float64) (float64, api.Errno) = number.Binary
	_ func(op string, x float64) (float64, api.Errno)    = number.Unary
	_ func(x, y float64) int                             = number.Less
	_ func(x, y float64) bool                            = number.Equal
	_ func(x, y float64) bool                            = number.Same
	_ func(x float64) float64                            = number.Floor
	_ func(x float64) float64                            = number.Ceil
	_ func(x float64) float64                            = number.Round
	_ func(x float64) float64                            = number.Abs
	_ func(x float64) float64                            = number.Sqrt
	_ func(l []float64) float64                          = number.Least
	_ func(l []float64) float64                          = number.Most
)

var (
	_ func(x float64) float64    = mathfn.Exp
	_ func(x float64) float64    = mathfn.Log
	_ func(x float64) float64    = mathfn.Sin
	_ func(x float64) float64    = mathfn.Cos
	_ func(x float64) float64    = mathfn.Tan
	_ func(x float64) float64    = mathfn.Atan
	_ func(x float64) float64    = mathfn.Asin
	_ func(x float64) float64    = mathfn.Acos
	_ func(y, x float64) float64 = mathfn.Atan2
	_ func(x, y float64) float64 = mathfn.Pow
)

var (
	_ func(src string, at int, operand bool) (api.Token, int, api.Errno) = lexer.Next
	_ func(src string) ([]api.Token, int, api.Errno)                     = lexer.All
	_ func(s string) bool                                                = lexer.Reserved
	_ func(s string) bool                                                = lexer.Named
	_ func(s string) string                                              = lexer.Quote
	_ func(s string) (string, api.Errno)                                 = lexer.Spell
)

var (
	_ func(n api.Node) api.Errno           = ast.Check
	_ func(n api.Node) (string, api.Errno) = ast.Print
	_ func(a, b api.Node) bool             = ast.Same
	_ func(n api.Node) int                 = ast.Depth
	_ func(n api.Node) int                 = ast.Size
)

var (
	_ func(src string, depth int) (api.Node, int, api.Errno) = parser.Parse
	_ func(src string, depth int) (api.Node, int, api.Errno) = parser.Expression
)

var (
	_ func(n api.Node) (int, api.Errno)      = early.Check
	_ func(n api.Node) ([]string, api.Errno) = early.Names
)

var (
	_ func(b string, depth int) (api.Node, int, api.Errno) = source.Read
	_ func(n api.Node) (string, api.Errno)                 = source.Write
)

var (
	_ func(v api.Value) api.Errno                 = value.Check
	_ func(b bool) api.Value                      = value.Bool
	_ func(x float64) api.Value                   = value.Number
	_ func(s string) api.Value                    = value.String
	_ func(o int) api.Value                       = value.Object
	_ func(v api.Value, call bool) string         = value.TypeOf
	_ func(v api.Value) bool                      = value.ToBoolean
	_ func(v api.Value) (float64, api.Errno)      = value.ToNumber
	_ func(v api.Value) (string, api.Errno)       = value.ToString
	_ func(x, y api.Value) bool                   = value.Strict
	_ func(x, y api.Value) bool                   = value.Same
	_ func(x, y api.Value) (bool, api.Errno)      = value.Loose
	_ func(x, y api.Value) (int, api.Errno)       = value.Less
	_ func(x, y api.Value) (api.Value, api.Errno) = value.Add
)

var (
	_ func(p api.Prop) api.Errno                                          = property.Check
	_ func(p api.Prop) bool                                               = property.Accessor
	_ func(p api.Prop) bool                                               = property.Data
	_ func(p api.Prop) api.Prop                                           = property.Full
	_ func(v api.Value, writable, enumerable, configurable bool) api.Prop = property.Plain
	_ func(old, p api.Prop) (api.Prop, bool)                              = property.Change
	_ func(a, b api.Prop) bool                                            = property.Same
	_ func(l []api.Keyed, key string) int                                 = property.Find
	_ func(l []api.Keyed, key string, p api.Prop) []api.Keyed             = property.Put
	_ func(l []api.Keyed, key string) []api.Keyed                         = property.Remove
	_ func(key string) (uint32, bool)                                     = property.Index
	_ func(i uint32) string                                               = property.Key
)

var (
	_ func(cells int) (*heap.Heap, api.Errno)                             = heap.New
	_ func(l []api.Object, cells int) (*heap.Heap, api.Errno)             = heap.Load
	_ func(h *heap.Heap) int                                              = (*heap.Heap).Len
	_ func(h *heap.Heap, o int) (api.Object, api.Errno)                   = (*heap.Heap).Object
	_ func(h *heap.Heap) []api.Object                                     = (*heap.Heap).All
	_ func(h *heap.Heap, o api.Object) (int, api.Errno)                   = (*heap.Heap).Alloc
	_ func(h *heap.Heap, n int) bool                                      = (*heap.Heap).Take
	_ func(h *heap.Heap) int                                              = (*heap.Heap).Used
	_ func(h *heap.Heap, o int, key string) (api.Prop, bool)              = (*heap.Heap).Own
	_ func(h *heap.Heap, o int, key string) (api.Prop, int, bool)         = (*heap.Heap).Property
	_ func(h *heap.Heap, o int, key string) bool                          = (*heap.Heap).CanPut
	_ func(h *heap.Heap, o int, key string, p api.Prop) (bool, api.Errno) = (*heap.Heap).Define
	_ func(h *heap.Heap, o int, key string) bool                          = (*heap.Heap).Delete
	_ func(h *heap.Heap, o int) []string                                  = (*heap.Heap).Names
	_ func(h *heap.Heap, o int) []string                                  = (*heap.Heap).Keys
	_ func(h *heap.Heap, o int)                                           = (*heap.Heap).Prevent
	_ func(h *heap.Heap, o int) bool                                      = (*heap.Heap).Fixed
)

var (
	_ func(m *machine.Machine, e api.Entry) api.Done                                = machine.Native(nil)
	_ func(m *machine.Machine, f int, this api.Value, args []api.Value) api.Done    = machine.Body(nil)
	_ func(l api.Limits, draws []float64) (*machine.Machine, api.Errno)             = machine.New
	_ func(m *machine.Machine) *heap.Heap                                           = (*machine.Machine).Heap
	_ func(m *machine.Machine) api.Limits                                           = (*machine.Machine).Limits
	_ func(m *machine.Machine, n int) bool                                          = (*machine.Machine).Spend
	_ func(m *machine.Machine) int                                                  = (*machine.Machine).Left
	_ func(m *machine.Machine) bool                                                 = (*machine.Machine).Over
	_ func(m *machine.Machine) api.Done                                             = (*machine.Machine).Stop
	_ func(m *machine.Machine) (float64, bool)                                      = (*machine.Machine).Draw
	_ func(m *machine.Machine) int                                                  = (*machine.Machine).Drawn
	_ func(m *machine.Machine, f machine.Native) int                                = (*machine.Machine).Register
	_ func(m *machine.Machine, f machine.Body)                                      = (*machine.Machine).SetBody
	_ func(m *machine.Machine, k int) int                                           = (*machine.Machine).Known
	_ func(m *machine.Machine, k, o int)                                            = (*machine.Machine).Know
	_ func(m *machine.Machine, k int) api.Done                                      = (*machine.Machine).Fail
	_ func(m *machine.Machine, o api.Object) (int, api.Done)                        = (*machine.Machine).Alloc
	_ func(m *machine.Machine, o int, key string, this api.Value) api.Done          = (*machine.Machine).Get
	_ func(m *machine.Machine, o int, key string, v api.Value, throw bool) api.Done = (*machine.Machine).Put
	_ func(m *machine.Machine, o int, key string, p api.Prop, throw bool) api.Done  = (*machine.Machine).Define
	_ func(m *machine.Machine, o int, key string, throw bool) api.Done              = (*machine.Machine).Delete
	_ func(m *machine.Machine, f, this api.Value, args []api.Value) api.Done        = (*machine.Machine).Call
	_ func(m *machine.Machine, f api.Value, args []api.Value) api.Done              = (*machine.Machine).Construct
	_ func(m *machine.Machine) bool                                                 = (*machine.Machine).Enter
	_ func(m *machine.Machine)                                                      = (*machine.Machine).Leave
	_ func(m *machine.Machine, n api.Node) int                                      = (*machine.Machine).AddCode
	_ func(m *machine.Machine, n int) (api.Node, bool)                              = (*machine.Machine).Code
	_ func(m *machine.Machine, e api.Env) (int, api.Done)                           = (*machine.Machine).AddEnv
	_ func(m *machine.Machine, n int) (api.Env, bool)                               = (*machine.Machine).Env
	_ func(m *machine.Machine, n int, e api.Env) api.Done                           = (*machine.Machine).SetEnv
	_ func(m *machine.Machine) int                                                  = (*machine.Machine).Envs
)

var (
	_ func(m *machine.Machine, outer, object int) (int, api.Done)           = env.New
	_ func(m *machine.Machine, env int, name string) bool                   = env.Has
	_ func(m *machine.Machine, env int, name string, mutable bool) api.Done = env.Create
	_ func(m *machine.Machine, env int, name string, v api.Value) api.Done  = env.Init
	_ func(m *machine.Machine, env int, name string, v api.Value) api.Done  = env.Set
	_ func(m *machine.Machine, env int, name string) api.Done               = env.Value
	_ func(m *machine.Machine, env int, name string) int                    = env.Find
	_ func(m *machine.Machine, env int, name string) api.Done               = env.Lookup
	_ func(m *machine.Machine, env int, name string, v api.Value) api.Done  = env.Assign
)

var (
	_ func(m *machine.Machine, v api.Value, hint int) api.Done                = convert.Primitive
	_ func(m *machine.Machine, v api.Value) api.Done                          = convert.Number
	_ func(m *machine.Machine, v api.Value) api.Done                          = convert.Text
	_ func(m *machine.Machine, v api.Value) api.Done                          = convert.Object
	_ func(m *machine.Machine, v api.Value) api.Done                          = convert.Integer
	_ func(m *machine.Machine, v api.Value) api.Done                          = convert.Uint32
	_ func(m *machine.Machine, v api.Value) api.Done                          = convert.Check
	_ func(m *machine.Machine, v api.Value) bool                              = convert.Callable
	_ func(m *machine.Machine, a, b api.Value) api.Done                       = convert.Equal
	_ func(m *machine.Machine, a, b api.Value, left bool) api.Done            = convert.Less
	_ func(m *machine.Machine, v api.Value, key string) api.Done              = convert.Get
	_ func(m *machine.Machine, v api.Value, key string, w api.Value) api.Done = convert.Put
)

var (
	_ func(m *machine.Machine, op string, v api.Value) api.Done    = operate.Unary
	_ func(m *machine.Machine, op string, a, b api.Value) api.Done = operate.Binary
	_ func(m *machine.Machine, a, b string) api.Done               = operate.Concat
	_ func(m *machine.Machine, f, v api.Value) api.Done            = operate.Instance
)

var (
	_ func(m *machine.Machine, code, scope int) api.Done                        = function.Make
	_ func(m *machine.Machine, native, params int) api.Done                     = function.Native
	_ func(m *machine.Machine, f, this api.Value, args []api.Value) api.Done    = function.Bind
	_ func(m *machine.Machine, args []api.Value) api.Done                       = function.Arguments
	_ func(m *machine.Machine, l []api.Value) api.Done                          = function.Array
	_ func(m *machine.Machine, proto int) api.Done                              = function.Plain
	_ func(m *machine.Machine, o int, name string, native, params int) api.Done = function.Built
	_ func(m *machine.Machine, name string, native, params, proto int) api.Done = function.Maker
)

var (
	_ func(m *machine.Machine, c api.Context, n api.Node) api.Done = express.Eval
	_ func(m *machine.Machine, env int, n api.Node) api.Done       = express.Closure
)

var (
	_ func(m *machine.Machine, c api.Context, n api.Node) api.Done = state.Exec
	_ func(m *machine.Machine, c api.Context, n api.Node) api.Done = state.Program
	_ func(l []api.Node) []string                                  = state.Names
	_ func(m *machine.Machine)                                     = state.Install
)

var (
	_ func(l api.Limits, draws []float64) (*realm.Realm, api.Errno) = realm.New
	_ func(r *realm.Realm) *machine.Machine                         = (*realm.Realm).Machine
	_ func(r *realm.Realm) api.Context                              = (*realm.Realm).Context
	_ func(r *realm.Realm) []string                                 = (*realm.Realm).Lines
	_ func(r *realm.Realm) bool                                     = (*realm.Realm).Full
)

var (
	_ func(m *machine.Machine) api.Done = libobject.Install
)

var (
	_ func(m *machine.Machine) api.Done = libfunc.Install
)

var (
	_ func(m *machine.Machine) api.Done = libnum.Install
)

var (
	_ func(m *machine.Machine) api.Done = libarray.Install
)

var (
	_ func(m *machine.Machine) api.Done = libstring.Install
)

var (
	_ func(m *machine.Machine) api.Done = libjson.Install
	_ func(s string) string             = libjson.Quote
)

var (
	_ func(m *machine.Machine) (*loop.Loop, api.Done) = loop.Install
	_ func(l *loop.Loop) (int, api.Done)              = (*loop.Loop).Run
	_ func(l *loop.Loop) int                          = (*loop.Loop).Waiting
	_ func(l *loop.Loop) float64                      = (*loop.Loop).Clock
)

var (
	_ func(v api.Value) string                           = snapshot.Show
	_ func(m *machine.Machine, roots []api.Value) string = snapshot.Of
)

var (
	_ func(s api.Script) api.Outcome = engine.Run
	_ func(text string) string       = engine.Main
)

func TestHints(t *testing.T) {
	if convert.HintNone != 0 || convert.HintNumber != 1 || convert.HintText != 2 {
		t.Error("the hints of layer 16")
	}
}
