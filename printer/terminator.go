package printer

import (
	"slices"

	"burnish/api"
)

// A terminator is one of a valid module.
type terminator struct {
	api.Terminator
	module api.Module
}

func (t terminator) tokens() []string {
	return [...]func() []string{
		api.Jump:     t.jump,
		api.Branch:   t.branch,
		api.Switch:   t.choice,
		api.Return:   t.result,
		api.Trap:     t.trap,
		api.TailCall: t.tailCall,
	}[t.Kind]()
}

func (t terminator) jump() []string {
	return append(words("jump"), t.edges()...)
}

func (t terminator) branch() []string {
	return slices.Concat(words("branch"), number(t.Args[0]), t.edges())
}

func (t terminator) choice() []string {
	return slices.Concat(words("switch"), number(t.Args[0]), list(t.Cases), t.edges())
}

func (t terminator) result() []string {
	return append(words("return"), list(t.Args)...)
}

func (t terminator) trap() []string {
	return append(words("trap"), number(t.Cases[0])...)
}

func (t terminator) tailCall() []string {
	return append(words("tailcall", t.module.Funcs[t.Sym].Name), list(t.Args)...)
}

func (t terminator) edges() []string {
	var tokens []string
	for _, e := range t.Succs {
		tokens = slices.Concat(tokens, number(e.Block), list(e.Args))
	}
	return tokens
}
