package code_test

import (
	"fmt"
	"math"
	"testing"

	"nomenclator/api"
	"nomenclator/code"
)

// The document's own words, by their numbers.
var (
	ownTypes   = map[int]string{1: "A", 2: "NS", 5: "CNAME", 6: "SOA", 12: "PTR", 15: "MX", 16: "TXT", 28: "AAAA", 33: "SRV", 41: "OPT", 255: "ANY", 257: "CAA"}
	ownClasses = map[int]string{1: "IN", 3: "CH", 4: "HS", 254: "NONE", 255: "ANY"}
	ownRcodes  = map[int]string{0: "NOERROR", 1: "FORMERR", 2: "SERVFAIL", 3: "NXDOMAIN", 4: "NOTIMP", 5: "REFUSED", 6: "YXDOMAIN", 7: "YXRRSET", 8: "NXRRSET", 9: "NOTAUTH", 10: "NOTZONE", 16: "BADVERS"}
	ownOpcodes = map[int]string{0: "QUERY", 1: "IQUERY", 2: "STATUS", 4: "NOTIFY", 5: "UPDATE"}
)

// kind is a kind of numbers, with the package's calls for it; parse is nil, if its words are not read.
type kind struct {
	name   string
	own    map[int]string
	prefix string
	most   int
	tell   func(n int) (string, api.Errno)
	parse  func(s string) (int, api.Errno)
}

// kinds are all of them. Types and classes have no numbers out of their bounds, so that their tell is asked with none.
func kinds() []kind {
	return []kind{
		{"Type", ownTypes, "TYPE", 65535,
			func(n int) (string, api.Errno) { return code.Type(api.Type(n)), api.OK },
			func(s string) (int, api.Errno) { n, e := code.ParseType(s); return int(n), e }},
		{"Class", ownClasses, "CLASS", 65535,
			func(n int) (string, api.Errno) { return code.Class(api.Class(n)), api.OK },
			func(s string) (int, api.Errno) { n, e := code.ParseClass(s); return int(n), e }},
		{"Rcode", ownRcodes, "RCODE", 4095, code.Rcode, code.ParseRcode},
		{"Opcode", ownOpcodes, "OPCODE", 15, code.Opcode, nil},
	}
}

// word is the word of a number, as the document's table has it.
func (k kind) word(n int) string {
	if s, ok := k.own[n]; ok {
		return s
	}
	return fmt.Sprintf("%s%d", k.prefix, n)
}

// P4.1: Type, Class, Rcode, Opcode.

func TestWordExamples(t *testing.T) {
	for n, want := range map[api.Type]string{28: "AAAA", 99: "TYPE99", 0: "TYPE0", 65535: "TYPE65535", 255: "ANY", 254: "TYPE254", 256: "TYPE256", 257: "CAA", 3: "TYPE3", api.OPT: "OPT"} {
		if s := code.Type(n); s != want {
			t.Errorf("Type(%d) = %q", n, s)
		}
	}
	for n, want := range map[api.Class]string{1: "IN", 2: "CLASS2", 0: "CLASS0", 3: "CH", 4: "HS", 5: "CLASS5", 254: "NONE", 255: "ANY", 256: "CLASS256", 65535: "CLASS65535"} {
		if s := code.Class(n); s != want {
			t.Errorf("Class(%d) = %q", n, s)
		}
	}
	for n, want := range map[int]string{3: "NXDOMAIN", 11: "RCODE11", 0: "NOERROR", 15: "RCODE15", 16: "BADVERS", 17: "RCODE17", 4095: "RCODE4095"} {
		if s, e := code.Rcode(n); s != want || e != api.OK {
			t.Errorf("Rcode(%d) = %q, %d", n, s, e)
		}
	}
	for n, want := range map[int]string{5: "UPDATE", 3: "OPCODE3", 0: "QUERY", 6: "OPCODE6", 15: "OPCODE15"} {
		if s, e := code.Opcode(n); s != want || e != api.OK {
			t.Errorf("Opcode(%d) = %q, %d", n, s, e)
		}
	}
}

func TestEachWord(t *testing.T) {
	for _, k := range kinds() {
		for n := range k.most + 1 {
			if s, e := k.tell(n); s != k.word(n) || e != api.OK {
				t.Errorf("%s(%d) = %q, %d, not %q", k.name, n, s, e, k.word(n))
			}
		}
	}
}

func TestNumbersOfNoKind(t *testing.T) {
	for _, n := range []int{-1, -2, -15, -16, -4096, math.MinInt, math.MinInt32, 4096, 4097, 4098, 4096 + 16, 65535, 65536, 65539, 1 << 32, 1<<32 + 3, 1<<62 + 3, math.MaxInt} {
		if s, e := code.Rcode(n); s != "" || e != api.ErrArg {
			t.Errorf("Rcode(%d) = %q, %d", n, s, e)
		}
		if s, e := code.Opcode(n); s != "" || e != api.ErrArg {
			t.Errorf("Opcode(%d) = %q, %d", n, s, e)
		}
	}
	for n := 16; n < 5000; n++ {
		if s, e := code.Opcode(n); s != "" || e != api.ErrArg {
			t.Errorf("Opcode(%d) = %q, %d", n, s, e)
		}
	}
}

// P4.3: Known, Stored.

func TestKnown(t *testing.T) {
	known := map[api.Type]bool{1: true, 2: true, 5: true, 6: true, 12: true, 15: true, 16: true, 28: true, 33: true, 257: true}
	for n := range 65536 {
		if k := code.Known(api.Type(n)); k != known[api.Type(n)] {
			t.Errorf("Known(%d) = %t", n, k)
		}
	}
}

func TestStored(t *testing.T) {
	for n, want := range map[api.Type]bool{99: true, api.OPT: false, api.ANY: false, 0: false, 1: true, 40: true, 42: true, 127: true, 128: false, 254: false, 256: true, 257: true, 65535: true} {
		if s := code.Stored(n); s != want {
			t.Errorf("Stored(%d) = %t", n, s)
		}
	}
	for n := range 65536 {
		want := true
		if n == 0 || n == 41 || n/128 == 1 {
			want = false
		}
		if s := code.Stored(api.Type(n)); s != want {
			t.Errorf("Stored(%d) = %t", n, s)
		}
	}
}

func TestKnownMayBeStored(t *testing.T) {
	for n := range 65536 {
		if code.Known(api.Type(n)) && !code.Stored(api.Type(n)) {
			t.Errorf("the type %d has data of its own, but no zone has it", n)
		}
	}
}
