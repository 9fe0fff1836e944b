package expr

import (
	"strconv"
	"strings"

	"burnish/api"
	"burnish/opcode"
)

// Format returns the text of e, which no other expression has.
func Format(e []api.ExprNode) string {
	var text strings.Builder
	for i, node := range e {
		if i > 0 {
			text.WriteByte(' ')
		}
		text.WriteString(formatNode(node))
	}
	return text.String()
}

func formatNode(node api.ExprNode) string {
	n := strconv.FormatInt(node.N, 10)
	if node.Op == api.OpCopy && node.Type == api.Void {
		return "r" + n
	}
	return nameOr(opcode.Name(node.Op), node.Op) + ":" + nameOr(opcode.TypeName(node.Type), int(node.Type)) + ":" + n
}

// nameOr returns a name, or the number of what has none.
func nameOr(name string, number int) string {
	if name == "" {
		return strconv.Itoa(number)
	}
	return name
}
