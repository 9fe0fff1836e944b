package opcode

import (
	"burnish/api"
	"burnish/intn"
)

// A typeSet is a set of types: bit t stands for type t.
type typeSet uint8

const (
	void    typeSet = 1 << api.Void
	boolean typeSet = 1 << api.Bool
	i8      typeSet = 1 << api.I8
	i32     typeSet = 1 << api.I32
	i64     typeSet = 1 << api.I64
	pointer typeSet = 1 << api.Ptr
	v2      typeSet = 1 << api.V2
	v4      typeSet = 1 << api.V4

	words    = i8 | i32 | i64
	integers = boolean | words
	vectors  = v2 | v4
	cells    = words | pointer
	anyType  = integers | pointer | vectors
)

func (s typeSet) has(t api.Type) bool {
	return api.Void <= t && t <= api.V4 && s>>t&1 == 1
}

// How the types of an operation's operands depend on each other and on its result.
const (
	unrelated       = iota
	alike           // all operands have one type
	likeResult      // they have the type of the result
	laterLikeResult // so do all but the first
	widened         // the operand is narrower than the result
	narrowed        // the operand is wider
	perLane         // one operand a lane of the result
)

// A rule is a row of DOC.md's table: the types that the result and each operand may
// have. An operand that the relation alone restricts may have any type; one that the
// operation does not have has the empty set.
type rule struct {
	result   typeSet
	operands [4]typeSet
	relation int
}

// A call has no rule of its own: it goes by the function that is called.
var rules = [...]rule{
	api.OpConst:  {result: integers},
	api.OpPoison: {result: anyType},
	api.OpFreeze: {anyType &^ pointer, [4]typeSet{anyType}, likeResult},
	api.OpCopy:   {anyType, [4]typeSet{anyType}, likeResult},
	api.OpAdd:    {words | vectors, [4]typeSet{anyType, anyType}, likeResult},
	api.OpSub:    {words | vectors, [4]typeSet{anyType, anyType}, likeResult},
	api.OpMul:    {words | vectors, [4]typeSet{anyType, anyType}, likeResult},
	api.OpAnd:    {integers | vectors, [4]typeSet{anyType, anyType}, likeResult},
	api.OpOr:     {integers | vectors, [4]typeSet{anyType, anyType}, likeResult},
	api.OpXor:    {integers | vectors, [4]typeSet{anyType, anyType}, likeResult},
	api.OpShl:    {words, [4]typeSet{anyType, anyType}, likeResult},
	api.OpLshr:   {words, [4]typeSet{anyType, anyType}, likeResult},
	api.OpAshr:   {words, [4]typeSet{anyType, anyType}, likeResult},
	api.OpSdiv:   {words, [4]typeSet{anyType, anyType}, likeResult},
	api.OpSrem:   {words, [4]typeSet{anyType, anyType}, likeResult},
	api.OpEq:     {boolean, [4]typeSet{integers | pointer, integers | pointer}, alike},
	api.OpNe:     {boolean, [4]typeSet{integers | pointer, integers | pointer}, alike},
	api.OpSlt:    {boolean, [4]typeSet{words, words}, alike},
	api.OpSle:    {boolean, [4]typeSet{words, words}, alike},
	api.OpUlt:    {boolean, [4]typeSet{words, words}, alike},
	api.OpSelect: {anyType, [4]typeSet{boolean, anyType, anyType}, laterLikeResult},
	api.OpSext:   {i32 | i64, [4]typeSet{i8 | i32}, widened},
	api.OpZext:   {words, [4]typeSet{boolean | i8 | i32}, widened},
	api.OpTrunc:  {integers, [4]typeSet{words}, narrowed},
	api.OpGlobal: {result: pointer},
	api.OpAlloca: {result: pointer},
	api.OpOffset: {pointer, [4]typeSet{pointer, i64}, unrelated},
	api.OpLoad:   {cells | vectors, [4]typeSet{pointer}, unrelated},
	api.OpStore:  {void, [4]typeSet{pointer, cells | vectors}, unrelated},
	api.OpOutput: {void, [4]typeSet{anyType}, unrelated},
	api.OpPack:   {vectors, [4]typeSet{i32, i32, i32, i32}, perLane},
	api.OpLane:   {i32, [4]typeSet{vectors}, unrelated},
}

// accepts reports whether the types of a result and of its operands, not more than the rule has, keep to the rule.
func (r rule) accepts(result api.Type, operands []api.Type) bool {
	for i, t := range operands {
		if !r.operands[i].has(t) {
			return false
		}
	}
	return r.result.has(result) && related(r.relation, result, operands)
}

func related(relation int, result api.Type, operands []api.Type) bool {
	switch relation {
	case alike:
		return all(operands, operands[0])
	case laterLikeResult:
		operands = operands[1:]
		fallthrough
	case likeResult:
		return all(operands, result)
	case widened:
		return intn.Bits(operands[0]) < intn.Bits(result)
	case narrowed:
		return intn.Bits(operands[0]) > intn.Bits(result)
	case perLane:
		_, lanes := Access(result)
		return len(operands) == lanes
	}
	return true
}

func all(types []api.Type, t api.Type) bool {
	for _, other := range types {
		if other != t {
			return false
		}
	}
	return true
}
