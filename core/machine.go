// Package core is the machine behind package machine, with what the layers above ask of it.
package core

import (
	"strings"

	"threadbare/api"
	"threadbare/names"
	"threadbare/table"
	"threadbare/text"
	"threadbare/vars"
)

// Command does a command of words; the first one is its name.
type Command func(x *Machine, words []string) Result

// Entry is a command: how many words it takes behind its name (-1: any number), what it does, and what a layer keeps of it. Number is its own, from the moment on in which it is made.
type Entry struct {
	Least, Most int
	Do          Command
	Kind        any
	Number      int
}

// Frame is a level: its scope, its namespace, the words that began it, and what a layer keeps of it.
type Frame struct {
	Scope int
	Space string
	Words []string
	Kind  any
}

// Hooks are what is told when something happens (layer 27).
type Hooks struct {
	Read    func(x *Machine, ref Ref, c *vars.Cell) Result
	Write   func(x *Machine, ref Ref, c *vars.Cell) Result
	Unset   func(x *Machine, ref Ref, c *vars.Cell) Result
	Renamed func(x *Machine, number int, old, new string) Result
	Gone    func(x *Machine, numbers []int, olds []string) Result
	Enter   func(x *Machine, number int, words []string) Result
	Leave   func(x *Machine, number int, words []string, r Result) Result
	Watched func(x *Machine, number int) bool
}

// Family is what all machines of a family share: the steps that are left, the scripts that are being evaluated, and whether any variable was ever traced.
type Family struct {
	Steps  int
	Depth  int
	Traced bool
	Busy   map[*vars.Cell]bool // variables whose traces are being done
}

// Machine evaluates scripts.
type Machine struct {
	*Family
	Hooks Hooks

	vars     *vars.Space
	tree     *names.Tree
	table    *table.Table
	commands map[int]*Entry
	frames   []*Frame
	left     int
	ops      [api.ITrue + 1]func(r *runner, i *api.Instr) bool
	faces    faces

	installers []func(x *Machine)
	Unsafe     []string // the commands that a safe child has hidden
	state      map[string]any
	Nest
}

// Nest is a machine's place in its family (layer 28).
type Nest struct {
	Maker    *Machine
	Name     string
	Children map[string]*Machine
	Safe     bool
	Limit    int // the steps that are left to it; -1 for no limit
	Deleted  bool
}

// New returns a machine with the commands of layer 19, and those that installers lay.
func New(installers ...func(x *Machine)) *Machine {
	x := &Machine{
		Family:     &Family{Busy: map[*vars.Cell]bool{}},
		vars:       vars.New(),
		tree:       names.New(),
		table:      table.New(),
		commands:   map[int]*Entry{},
		ops:        operations(),
		installers: installers,
		state:      map[string]any{},
		Nest:       Nest{Children: map[string]*Machine{}, Limit: -1},
	}
	x.faces.on = true
	x.frames = []*Frame{{Space: "::"}}
	x.installBase()
	for _, install := range installers {
		install(x)
	}
	return x
}

// Twin returns a new machine with the same layers, in the same family.
func (x *Machine) Twin() *Machine {
	y := New(x.installers...)
	y.Family = x.Family
	y.faces.on = x.faces.on
	return y
}

// State returns what a layer keeps of the machine under a name, made at first.
func State[T any](x *Machine, name string, made func() T) T {
	if s, ok := x.state[name].(T); ok {
		return s
	}
	s := made()
	x.state[name] = s
	return s
}

// clean lays the global level alone, as no script is evaluated.
func (x *Machine) clean() { x.frames = x.frames[:1:1] }

// outside is an outcome as it leaves the machine.
func (x *Machine) outside(r Result) Result {
	if r.Code == api.CStop && r.From == x {
		return Error(r.Text)
	}
	if r.Tail != nil {
		r.Tail = nil
		r.Text = ""
	}
	return r
}

// Outside is an outcome as it leaves the machine.
func (x *Machine) Outside(r Result) Result { return x.outside(r) }

// Start does something with some steps, as the first script of the machine.
func (x *Machine) Start(steps int, do func() Result) (r Result) {
	x.Steps, x.Depth = min(max(steps, 0), api.MaxSteps), 0
	x.clean()
	defer func() {
		// A call never panics, whatever a mistake of the program brings.
		if recover() != nil {
			r = Error("machine")
		}
		x.left = x.Steps
		x.clean()
	}()
	return x.outside(do())
}

// Eval evaluates a script in the global scope.
func (x *Machine) Eval(script string, steps int) api.Outcome {
	if x == nil || x.Family == nil {
		return Error("machine").Outcome
	}
	return x.Start(steps, func() Result { return x.Script(script) }).Outcome
}

// Expr evaluates an expression in the global scope.
func (x *Machine) Expr(text string, steps int) api.Outcome {
	if x == nil || x.Family == nil {
		return Error("machine").Outcome
	}
	return x.Start(steps, func() Result { return x.Expression(text) }).Outcome
}

// Left returns how many steps were left after the last script.
func (x *Machine) Left() int {
	if x == nil {
		return 0
	}
	return x.left
}

// Get reads a global variable.
func (x *Machine) Get(name string) (string, api.Errno) {
	if x == nil || x.vars == nil {
		return "", api.OK
	}
	w := vars.Parted(name)
	if strings.Contains(w.Name, "::") {
		return "", api.ErrName
	}
	return x.vars.GetAt(0, w)
}

// Set sets a global variable.
func (x *Machine) Set(name, value string) api.Errno {
	if x == nil || x.vars == nil {
		return api.ErrState
	}
	w := vars.Parted(name)
	if strings.Contains(w.Name, "::") {
		return api.ErrName
	}
	return x.vars.SetAt(0, w, value)
}

// Commands returns the names of all commands that a pattern matches.
func (x *Machine) Commands(pattern string) []string {
	if x == nil {
		return nil
	}
	return x.table.Names(pattern)
}

// Spaces returns the paths of all namespaces.
func (x *Machine) Spaces() []string {
	if x == nil {
		return nil
	}
	return x.tree.All()
}

// Room returns the scope of a namespace.
func (x *Machine) Room(space string) int {
	if space == "::" {
		return 0
	}
	return x.vars.Room(space)
}

// Dump returns the list of the namespaces with a variable that is set, and their variables.
func (x *Machine) Dump() string {
	if x == nil || x.vars == nil {
		return ""
	}
	var l []string
	for _, space := range x.tree.All() {
		if d := x.vars.Dump(x.Room(space)); d != "" {
			l = append(l, text.Quote(space), text.Quote(d))
		}
	}
	return strings.Join(l, " ")
}

// Forget drops all faces and all code.
func (x *Machine) Forget() {
	if x != nil {
		x.faces.forget()
		for _, c := range x.Children {
			c.Forget()
		}
	}
}

// Faces tells whether faces and code are kept.
func (x *Machine) Faces(on bool) {
	if x == nil {
		return
	}
	x.faces.forget()
	x.faces.on = on
	for _, c := range x.Children {
		c.Faces(on)
	}
}

// Vars returns the machine's variables.
func (x *Machine) Vars() *vars.Space { return x.vars }

// Tree returns the machine's namespaces.
func (x *Machine) Tree() *names.Tree { return x.tree }

// Table returns the names of the machine's commands.
func (x *Machine) Table() *table.Table { return x.table }

// Entry returns what a command's origin is; nil if it is gone.
func (x *Machine) Entry(number int) *Entry {
	origin, _ := x.table.Origin(number)
	return x.commands[origin]
}

// Alive reports whether the machine was made by New.
func (x *Machine) Alive() bool { return x != nil && x.Family != nil && x.state != nil }
