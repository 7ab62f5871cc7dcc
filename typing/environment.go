package typing

import (
	"iter"
	"slices"

	"transputer/api"
	"transputer/types"
)

// nowhere is the place of a specification that there is not.
const nowhere = -1

// entry is a specification in an environment.
type entry struct {
	spec   *api.Spec
	around int // so many specifications are around the one in which its type is written
}

// environment is a list of specifications, each of which is known by its place in it: those that are given, and behind
// them those that have been entered.
type environment struct {
	given   []api.Spec
	entered []entry
	places  map[string][]int // by the names, the places of their specifications, the innermost last
}

// environmentOf returns an environment in which those names can be found that are wanted.
func environmentOf(env []api.Spec, wanted func(name string) bool) environment {
	v := environment{given: env, places: map[string][]int{}}
	for place := range env {
		for _, name := range env[place].Names {
			if wanted(name) {
				v.places[name] = append(v.places[name], place)
			}
		}
	}
	return v
}

// size returns the number of specifications.
func (v *environment) size() int { return len(v.given) + len(v.entered) }

func (v *environment) at(place int) entry {
	if place < len(v.given) {
		return entry{spec: &v.given[place], around: place}
	}
	return v.entered[place-len(v.given)]
}

func (v *environment) enter(x entry) {
	for _, name := range x.spec.Names {
		v.places[name] = append(v.places[name], v.size())
	}
	v.entered = append(v.entered, x)
}

// leave removes the specification that was entered last.
func (v *environment) leave() {
	last := len(v.entered) - 1
	for _, name := range v.entered[last].spec.Names {
		l := v.places[name]
		v.places[name] = l[:len(l)-1]
	}
	v.entered = v.entered[:last]
}

// named produces the places of the specifications of a name, the innermost first.
func (v *environment) named(name string) iter.Seq[int] {
	return func(yield func(int) bool) {
		for _, place := range slices.Backward(v.places[name]) {
			if !yield(place) {
				return
			}
		}
	}
}

// find returns the place of the specification that a name has among the first so many, or nowhere.
func (v *environment) find(name string, among int) int {
	found := nowhere
search:
	for place := range v.named(name) {
		if place < among {
			found = place
			break search
		}
	}
	return found
}

// specified returns the specification that a name has, and whether there is one.
func (v *environment) specified(name string) (x entry, ok bool) {
	place := v.find(name, v.size())
	if place == nowhere {
		return entry{}, false
	}
	return v.at(place), true
}

// protocol returns the protocol of a channel type that so many specifications are around.
func (v *environment) protocol(t api.Type, around int) (api.Proto, api.Errno) {
	if t.Proto == "" {
		return api.Proto{L: []api.Variant{{Items: []api.TypeKind{t.Item}}}}, api.OK
	}
	place := v.find(t.Proto, around)
	if place == nowhere {
		return api.Proto{}, api.ErrScope
	}
	s := v.at(place).spec
	if s.Kind != api.SpProto || !types.MayProto(s.Proto) {
		return api.Proto{}, api.ErrTyping
	}
	return s.Proto, api.OK
}
