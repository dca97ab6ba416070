package memory

import (
	"slices"

	"bower/api"
	"bower/node"
)

// Same tells whether two blocks have the same.
func Same(a, b api.Block) bool {
	return a.Kind == b.Kind && node.Same(a.Node, b.Node) && samePlan(a.Plan, b.Plan) && slices.Equal(a.Pairs, b.Pairs)
}

// samePlan tells whether two plans have the same.
func samePlan(a, b api.Plan) bool {
	return a.Thread == b.Thread && sameAnswer(a.Answer, b.Answer) && slices.Equal(a.Steps, b.Steps) && slices.Equal(a.Extra, b.Extra)
}

// sameAnswer tells whether two answers have the same.
func sameAnswer(a, b api.Answer) bool {
	return a.Code == b.Code && a.Key == b.Key && a.Val == b.Val && slices.Equal(a.Pairs, b.Pairs)
}

// clone tells a block that has the same, in new memory: who put it may go on with what it put.
func clone(b api.Block) api.Block {
	b.Node, b.Pairs = node.Clone(b.Node), slices.Clone(b.Pairs)
	p := &b.Plan
	p.Answer.Pairs, p.Steps, p.Extra = slices.Clone(p.Answer.Pairs), slices.Clone(p.Steps), slices.Clone(p.Extra)
	return b
}
