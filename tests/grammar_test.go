package tests

import (
	"fmt"
	"slices"
	"strings"

	"loop.example/g00370/impl"
)

// grammar is chapter 4 written out once more, as rules for a stack of what has yet to come: by the next token of <..> (_ is any other one) what stands in its place.
// INT, TEXT and NAME are tokens of these kinds, @node is the end of a node, @close that of an expression or a statement.
var grammar = map[string]map[string]string{
	"<items>":      {"": "", "function": "function NAME ( <parameters> <block> @node <items>", "_": "<statement> <items>"},
	"<parameters>": {")": ")", "_": "NAME <more-parameters>"},
	"<more-parameters>": {
		",": ", NAME <more-parameters>", "_": ")"},
	"<block>":      {"_": "{ <statements> @node"},
	"<statements>": {"}": "}", "_": "<statement> <statements>"},
	"<statement>": {
		"let":    "let NAME = <expression> ; @node @close",
		"if":     "if ( <expression> ) <block> <else> @node @close",
		"while":  "while ( <expression> ) <block> @node @close",
		"return": "return <expression> ; @node @close",
		"throw":  "throw <expression> ; @node @close",
		"try":    "try <block> catch ( NAME ) <block> @node @close",
		"{":      "<block> @close",
		"SET":    "NAME = <expression> ; @node @close",
		"_":      "<expression> ; @node @close"},
	"<else>":       {"else": "else <block>", "_": ""},
	"<expression>": {"_": "<operand> <tail> @close"},
	"<behind>":     {"_": "<operand> @close"},
	"<operand>": {
		"INT": "INT @node", "TEXT": "TEXT @node", "true": "true @node", "false": "false @node", "null": "null @node",
		"NAME": "NAME <call>", "(": "( <expression> )", "!": "! <behind> @node", "-": "- <behind> @node"},
	"<call>":      {"(": "( <arguments> @node", "_": "@node"},
	"<arguments>": {")": ")", "_": "<expression> <more-arguments>"},
	"<more-arguments>": {
		",": ", <expression> <more-arguments>", "_": ")"},
}

// closeness has the signs between operands, those that bind closer later.
var closeness = []string{"||", "&&", "< ==", "+ -", "* / %"}

func closenessWanted(sign string) int {
	return slices.IndexFunc(closeness, func(signs string) bool { return slices.Contains(strings.Fields(signs), sign) })
}

type recognizer struct {
	tokens      []impl.Token
	stack       []string
	next        int
	open, nodes int
	place, code int
}

func (r *recognizer) token(ahead int) string {
	if r.next+ahead >= len(r.tokens) {
		return ""
	}
	x := r.tokens[r.next+ahead]
	switch x.Kind {
	case impl.ToName:
		return "NAME"
	case impl.ToInt:
		return "INT"
	case impl.ToText:
		return "TEXT"
	}
	return x.Text
}

func (r *recognizer) push(parts string) {
	list := strings.Fields(parts)
	slices.Reverse(list)
	r.stack = append(r.stack, list...)
}

func (r *recognizer) fail(code int) {
	r.code = code
	switch {
	case r.next < len(r.tokens):
		r.place = r.tokens[r.next].At
	case len(r.tokens) > 0:
		r.place = r.tokens[len(r.tokens)-1].At + 1
	}
}

func (r *recognizer) endNode() {
	r.nodes++
	if r.nodes == 201 {
		r.fail(impl.ErrMany)
	}
}

// mayBegin counts what is open; nothing begins with a token that can't begin it.
func (r *recognizer) mayBegin(part string) {
	first := strings.Fields("INT TEXT true false null NAME ( ! -")
	if part == "<statement>" {
		first = append(first, strings.Fields("let if while return throw try {")...)
	}
	if !slices.Contains(first, r.token(0)) {
		r.fail(impl.ErrForm)
	} else if r.open == 20 {
		r.fail(impl.ErrDeep)
	}
	r.open++
}

// tail stands behind an operand: operations that bind at least as close as the next sign have ended.
func (r *recognizer) tail() {
	sign := r.token(0)
	for r.code == impl.OK {
		pending, found := strings.CutPrefix(r.stack[len(r.stack)-1], "pending:")
		if !found || closenessWanted(pending) < closenessWanted(sign) {
			break
		}
		r.stack = r.stack[:len(r.stack)-1]
		r.endNode()
	}
	if closenessWanted(sign) >= 0 {
		r.push(sign + " <operand> <tail> pending:" + sign)
	}
}

func (r *recognizer) expand(part string) {
	if part == "<expression>" || part == "<behind>" || part == "<statement>" {
		r.mayBegin(part)
	}
	if r.code != impl.OK {
		return
	}
	token := r.token(0)
	if part == "<statement>" && token == "NAME" && r.token(1) == "=" {
		token = "SET"
	}
	rule, found := grammar[part][token]
	if !found {
		rule, found = grammar[part]["_"]
	}
	if !found {
		r.fail(impl.ErrForm)
		return
	}
	r.push(rule)
}

func (r *recognizer) step() {
	part := r.stack[len(r.stack)-1]
	r.stack = r.stack[:len(r.stack)-1]
	switch {
	case part == "@node":
		r.endNode()
	case part == "@close":
		r.open--
	case part == "<tail>":
		r.tail()
	case grammar[part] != nil:
		r.expand(part)
	case part == r.token(0):
		r.next++
	default:
		r.fail(impl.ErrForm)
	}
}

// parseWanted tells how many nodes a source has, or its fault and the place of it. It makes no tree.
func parseWanted(s string) (nodes, place, code int) {
	tokens, place, code := lexWanted(s)
	if code != impl.OK {
		return 0, place, code
	}
	r := recognizer{tokens: tokens}
	r.push("<items> @node")
	for len(r.stack) > 0 && r.code == impl.OK {
		r.step()
	}
	if r.code != impl.OK {
		return 0, r.place, r.code
	}
	return r.nodes, 0, impl.OK
}

// briefTree tells a tree on one line.
func briefTree(t impl.Tree) string {
	told := fmt.Sprintf("root %d of %d:", t.Root, len(t.Nodes))
	for i, n := range t.Nodes[:min(len(t.Nodes), 30)] {
		told += fmt.Sprintf(" %d{%d %d %.20q %.40q %.40s}", i, n.Kind, n.N, n.Text, n.Names, fmt.Sprint(n.Kids))
	}
	return told
}
