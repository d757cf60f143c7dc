package text

import (
	"strconv"

	"portico/inst"
)

// names holds the name of each operation.
var names = [inst.Ops]string{
	inst.Lui:    "lui",
	inst.Auipc:  "auipc",
	inst.Jal:    "jal",
	inst.Jalr:   "jalr",
	inst.Beq:    "beq",
	inst.Bne:    "bne",
	inst.Blt:    "blt",
	inst.Bge:    "bge",
	inst.Bltu:   "bltu",
	inst.Bgeu:   "bgeu",
	inst.Lb:     "lb",
	inst.Lh:     "lh",
	inst.Lw:     "lw",
	inst.Lbu:    "lbu",
	inst.Lhu:    "lhu",
	inst.Sb:     "sb",
	inst.Sh:     "sh",
	inst.Sw:     "sw",
	inst.Addi:   "addi",
	inst.Slti:   "slti",
	inst.Sltiu:  "sltiu",
	inst.Xori:   "xori",
	inst.Ori:    "ori",
	inst.Andi:   "andi",
	inst.Slli:   "slli",
	inst.Srli:   "srli",
	inst.Srai:   "srai",
	inst.Add:    "add",
	inst.Sub:    "sub",
	inst.Sll:    "sll",
	inst.Slt:    "slt",
	inst.Sltu:   "sltu",
	inst.Xor:    "xor",
	inst.Srl:    "srl",
	inst.Sra:    "sra",
	inst.Or:     "or",
	inst.And:    "and",
	inst.Mul:    "mul",
	inst.Mulh:   "mulh",
	inst.Mulhsu: "mulhsu",
	inst.Mulhu:  "mulhu",
	inst.Div:    "div",
	inst.Divu:   "divu",
	inst.Rem:    "rem",
	inst.Remu:   "remu",
	inst.Fence:  "fence",
	inst.Ecall:  "ecall",
	inst.Ebreak: "ebreak",
	inst.Mret:   "mret",
	inst.Wfi:    "wfi",
	inst.Csrrw:  "csrrw",
	inst.Csrrs:  "csrrs",
	inst.Csrrc:  "csrrc",
	inst.Csrrwi: "csrrwi",
	inst.Csrrsi: "csrrsi",
	inst.Csrrci: "csrrci",
}

// registers holds the name of each register that a line is shown with.
var registers = [32]string{
	"zero", "ra", "sp", "gp", "tp", "t0", "t1", "t2",
	"s0", "s1", "a0", "a1", "a2", "a3", "a4", "a5",
	"a6", "a7", "s2", "s3", "s4", "s5", "s6", "s7",
	"s8", "s9", "s10", "s11", "t3", "t4", "t5", "t6",
}

// frame is the register that fp names too.
const frame = 8

// Op returns the operation with that name, or 0 if there is none.
func Op(name string) int {
	for op := inst.None + 1; op < inst.Ops; op++ {
		if names[op] == name {
			return op
		}
	}
	return inst.None
}

// Name returns the name of an operation, or "" if op isn't one.
func Name(op int) string {
	if op <= inst.None || op >= inst.Ops {
		return ""
	}
	return names[op]
}

// Reg returns the number of the register with that name, or -1 if there is none.
func Reg(s string) int {
	if s == "fp" {
		return frame
	}
	for r := range len(registers) {
		if s == registers[r] || s == "x"+strconv.Itoa(r) {
			return r
		}
	}
	return -1
}
