package header

import "nomenclator/api"

// The flags are told as the number that the third and the fourth byte are together: the Rcode has its lowest four bits, the Opcode the four between AA and Response.
const (
	opcodeShift = 11
	most        = 15 // of an Opcode, and of an Rcode
)

// The bits from the fourth on, one above the other. bitNever has a name so that it can be refused; the four without one are the Opcode's.
const (
	bitCD = 1 << (iota + 4)
	bitAD
	bitNever
	bitRA
	bitRD
	bitTC
	bitAA
	_
	_
	_
	_
	bitResponse
)

// flag is a bit of that number, and where a message has it.
type flag struct {
	bit int
	on  *bool
}

// flagsOf tells a message's flags. They are written and read by this one list, so that neither can have another bit than the other.
func flagsOf(m *api.Message) [7]flag {
	return [7]flag{
		{bitResponse, &m.Response}, {bitAA, &m.AA}, {bitTC, &m.TC}, {bitRD, &m.RD}, {bitRA, &m.RA}, {bitAD, &m.AD}, {bitCD, &m.CD},
	}
}

// pack tells the number that a message's flags, its Opcode and its Rcode are.
func pack(m api.Message) (int, api.Errno) {
	if m.Opcode < 0 || m.Opcode > most || m.Rcode < 0 || m.Rcode > most {
		return 0, api.ErrArg
	}
	n := m.Opcode<<opcodeShift | m.Rcode
	for _, f := range flagsOf(&m) {
		if *f.on {
			n |= f.bit
		}
	}
	return n, api.OK
}

// unpack tells the message that has the flags, the Opcode and the Rcode of such a number.
func unpack(n int) (api.Message, api.Errno) {
	if n&bitNever != 0 {
		return api.Message{}, api.ErrBytes
	}
	m := api.Message{Opcode: n >> opcodeShift & most, Rcode: n & most}
	for _, f := range flagsOf(&m) {
		*f.on = n&f.bit != 0
	}
	return m, api.OK
}
