package loader

import (
	"errors"

	"lazaret/api"
	"lazaret/items"
	"lazaret/judge"
	"lazaret/policy"
	"lazaret/urls"
)

// A session is a document that is judged, as far as its nodes were visited.
type session struct {
	tree       api.Tree
	own, base  api.URL
	based      bool         // a base element was asked about
	policies   []api.Policy // those that count by now
	verdicts   []api.Verdict
	violations []api.Violation
}

// visit judges a node, and lets the policy that it has count from then on.
func (s *session) visit(node int) error {
	base := s.base
	if s.tree.Nodes[node].Name == "base" {
		base = s.own
	}
	for _, x := range items.Of(s.tree, node, base) {
		s.ask(x)
	}
	if content, ok := items.Policy(s.tree, node); ok {
		if p, ok := policy.Meta(content); ok {
			s.policies = append(s.policies, p)
		}
	}
	if len(s.policies) > api.MaxPolicies {
		return errors.Join(tooMany, place{node})
	}
	return nil
}

// ask asks the policies about an item; a base is asked about but once.
func (s *session) ask(x api.Item) {
	isBase := x.Kind == api.ItBase
	if isBase && s.based {
		return
	}
	verdict, violations := judge.Ask(s.policies, x, s.own, len(s.verdicts))
	s.verdicts = append(s.verdicts, verdict)
	s.violations = append(s.violations, violations...)
	if isBase {
		s.based = true
		if verdict.Mark != api.MaBlocked {
			s.rebase(x.URL)
		}
	}
}

// rebase makes a text the base URL, if that may be one.
func (s *session) rebase(text string) {
	u, e := urls.Parse(text, nil)
	if e == api.OK && u.Scheme != "data" && u.Scheme != "javascript" {
		s.base = u
	}
}
