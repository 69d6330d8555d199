package eval

import (
	"slices"

	"tithing/api"
)

// linked is what a link is found by.
type linked struct {
	op   int
	name string
}

// names says what the names of some nodes stand for.
type names struct {
	links     map[linked]api.Outcome
	schedules []api.Schedule
}

func namesOf(nodes []api.Node, env api.Env) names {
	return names{linksOf(nodes, env.Links), env.Schedules}
}

// linksOf returns what the links of nodes that have a name count as. An environment may have far more links than an expression has names.
func linksOf(nodes []api.Node, links []api.Link) map[linked]api.Outcome {
	found := map[linked]api.Outcome{}
	for _, n := range nodes {
		if n.Name != "" {
			found[linked{n.Op, n.Name}] = failed(api.ErrName)
		}
	}
	for _, l := range slices.Backward(links) { // so that the first one prevails
		if _, isUsed := found[linked{l.Op, l.Name}]; isUsed {
			found[linked{l.Op, l.Name}] = counted(l.Value)
		}
	}
	return found
}

// link returns the outcome of a node that is linked to one.
func (s names) link(n api.Node) api.Outcome {
	return s.links[linked{n.Op, n.Name}]
}

// schedule returns the schedule of a node, and whether there is one.
func (s names) schedule(n api.Node) (api.Schedule, bool) {
	for _, schedule := range s.schedules {
		if schedule.Name == n.Name {
			return schedule, true
		}
	}
	return api.Schedule{}, false
}
