package code

import (
	"strings"

	"foundry/api"
	"foundry/ints"
	"foundry/types"
)

// Text: the instruction as it is told; of one that is not right nothing.
func Text(i Ins) string {
	if !Right(i) {
		return ""
	}
	r, _ := rowOf(i.Op)
	if r.bytes == 0 {
		return r.name
	}
	return r.name + " " + operandText(i)
}

func operandText(i Ins) string {
	unary := [...]string{api.UNeg: "neg", api.UNot: "not", api.UInt: "int", api.UFloat: "float"}
	binary := [...]string{
		api.BAdd: "+", api.BSub: "-", api.BMul: "*", api.BDiv: "/", api.BRem: "%",
		api.BEq: "==", api.BNe: "!=", api.BLt: "<", api.BLe: "<=", api.BGt: ">", api.BGe: ">=",
	}
	switch i.Op {
	case opPush:
		return types.Show(i.V)
	case opUn:
		return unary[i.N]
	case opBin:
		return binary[i.N]
	}
	return ints.Decimal(int64(i.N))
}

// Texts: a line for each instruction, with its number ahead.
func Texts(l []Ins) string {
	var lines strings.Builder
	for at, i := range l {
		lines.WriteString(ints.Decimal(int64(at)) + " " + Text(i) + "\n")
	}
	return lines.String()
}
