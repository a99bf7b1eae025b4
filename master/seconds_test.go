package master_test

import (
	"fmt"
	"math/rand"
	"strings"
	"testing"

	"nomenclator/api"
	"nomenclator/master"
)

func counts(t *testing.T, s string, want uint32) {
	t.Helper()
	if n, err := master.TTL(s); n != want || err != api.OK {
		t.Errorf("TTL(%.100q) = %d, %d; want %d", s, n, err, want)
	}
}

func countsNot(t *testing.T, s string) {
	t.Helper()
	if n, err := master.TTL(s); n != 0 || err != api.ErrEntry {
		t.Errorf("TTL(%.100q) = %d, %d", s, n, err)
	}
}

// P14.1: the chapter's examples.
func TestSecondsExamples(t *testing.T) {
	counts(t, "1w2d", 777600)
	counts(t, "90", 90)
	for _, s := range []string{"1d1w", "1h1h", "090"} {
		countsNot(t, s)
	}
}

func TestPlainSeconds(t *testing.T) {
	for _, n := range []uint32{0, 1, 9, 10, 60, 100, 3600, 86400, 604800, 2147483646, 2147483647} {
		counts(t, fmt.Sprint(n), n)
		countsNot(t, fmt.Sprintf("0%d", n))
		countsNot(t, fmt.Sprintf("00%d", n))
		countsNot(t, fmt.Sprintf("+%d", n))
		countsNot(t, fmt.Sprintf("-%d", n))
		countsNot(t, fmt.Sprintf(" %d", n))
		countsNot(t, fmt.Sprintf("%d ", n))
		countsNot(t, fmt.Sprintf("%d.", n))
		countsNot(t, fmt.Sprintf("%d\n", n))
	}
	for _, s := range []string{"", "2147483648", "2147483649", "4294967295", "4294967296", "4294967297", "9223372036854775808", "18446744073709551616", "18446744073709551617", "1_0", "0x1", "1e3", "0b1", "1,0", "\x00", "\xff", "١", "１", ".", "-", "+"} {
		countsNot(t, s)
	}
}

func TestEachLetter(t *testing.T) {
	for i, length := range []uint32{604800, 86400, 3600, 60, 1} {
		small, great := "wdhms"[i:i+1], "WDHMS"[i:i+1]
		for _, letter := range []string{small, great} {
			counts(t, "0"+letter, 0)
			counts(t, "1"+letter, length)
			counts(t, "3"+letter, 3*length)
			most := uint32(2147483647) / length
			counts(t, fmt.Sprintf("%d%s", most, letter), most*length)
			countsNot(t, fmt.Sprintf("%d%s", most+1, letter))
			for _, n := range []string{"00", "01", "001", "-1", "+1", " 1", "1 ", "", "x", "2147483648", "4294967296", "18446744073709551616", "30500568904944"} {
				countsNot(t, n+letter)
			}
			countsNot(t, "1"+letter+"1"+small)
			countsNot(t, "1"+letter+"1"+great)
			countsNot(t, "1"+letter+small)
			countsNot(t, "1"+letter+"1")
			countsNot(t, "1"+letter+"0")
			countsNot(t, "1"+letter+" ")
			countsNot(t, " 1"+letter)
			countsNot(t, letter)
			countsNot(t, letter+"1")
			countsNot(t, letter+"1"+letter)
		}
	}
	for c := range 256 {
		letter := string([]byte{byte(c)})
		if !strings.Contains("wdhmsWDHMS0123456789", letter) {
			countsNot(t, "1"+letter)
			countsNot(t, letter+"1")
			countsNot(t, "1w1"+letter)
			countsNot(t, "1w"+letter+"1d")
		}
	}
	for _, s := range []string{"1y", "1ſ", "1mo", "1wk", "1day", "1min"} {
		countsNot(t, s)
	}
}

// Each choice of letters in their order is read; no other order is.
func TestOrderOfLetters(t *testing.T) {
	lengths := []uint32{604800, 86400, 3600, 60, 1}
	for choice := 1; choice < 32; choice++ {
		text, sum := "", uint32(0)
		for i, length := range lengths {
			if choice>>i&1 == 1 {
				text += fmt.Sprintf("%d%c", i+2, "wDhMs"[i])
				sum += uint32(i+2) * length
			}
		}
		counts(t, text, sum)
		counts(t, strings.ToUpper(text), sum)
		counts(t, strings.ToLower(text), sum)
		countsNot(t, text+"1")
		countsNot(t, text+"1w")
		countsNot(t, text+text)
	}
	for i := range 5 {
		for j := range 5 {
			s := "1" + "wdhms"[i:i+1] + "1" + "wdhms"[j:j+1]
			if i < j {
				counts(t, s, lengths[i]+lengths[j])
			} else {
				countsNot(t, s)
			}
		}
	}
}

func TestGreatestSum(t *testing.T) {
	// 3,550 weeks, 5 days, 3 hours, 14 minutes and 7 seconds are 2,147,483,647 seconds.
	counts(t, "3550w5d3h14m7s", 2147483647)
	counts(t, "3550W5D3H14M7S", 2147483647)
	countsNot(t, "3550w5d3h14m8s")
	countsNot(t, "3550w5d3h15m7s")
	countsNot(t, "3550w5d4h14m7s")
	countsNot(t, "3550w6d3h14m7s")
	countsNot(t, "3551w5d3h14m7s")
	counts(t, "3550w5d3h14m0s", 2147483640)
	counts(t, "0w0d0h0m2147483647s", 2147483647)
	countsNot(t, "0w0d0h0m2147483648s")
	countsNot(t, "0w0d0h1m2147483647s")
	countsNot(t, "2147483647w2147483647d2147483647h2147483647m2147483647s")
	counts(t, "35791394m7s", 2147483647)
	countsNot(t, "35791394m8s")
	// Sums that would come round at 32 bits.
	countsNot(t, "1m4294967295s")
	countsNot(t, "4294967295m60s")
	countsNot(t, "71582788m16s")
	countsNot(t, "7102w")
	// Numbers that would come round at 64 bits.
	countsNot(t, "30500568904943w")
	countsNot(t, "18446744073709551615w")
}

func TestLongSeconds(t *testing.T) {
	for _, s := range []string{strings.Repeat("9", 1<<20), strings.Repeat("0", 1<<20), strings.Repeat("1w", 1<<19), strings.Repeat("w", 1<<20), "1w" + strings.Repeat("1", 1<<20) + "d"} {
		countsNot(t, s)
	}
}

// Every text of up to six of these, against the pattern.
func TestEveryShortTTL(t *testing.T) {
	var try func(s string, more int)
	try = func(s string, more int) {
		want, wrong := modelTTL(s)
		if n, err := master.TTL(s); n != want || err != wrong {
			t.Fatalf("TTL(%q) = %d, %d; want %d, %d", s, n, err, want, wrong)
		}
		for i := 0; more > 0 && i < 9; i++ {
			try(s+"02wdhmsWx"[i:i+1], more-1)
		}
	}
	try("", 6)
}

func TestSecondsByChance(t *testing.T) {
	r := rand.New(rand.NewSource(16))
	for range 100000 {
		s := ""
		for i := range 5 {
			if r.Intn(2) == 0 {
				s += fmt.Sprint(r.Int63n(1<<r.Intn(40))) + pick(r, []string{"wdhms"[i : i+1], "WDHMS"[i : i+1]})
			}
			if r.Intn(20) == 0 {
				s += pick(r, []string{"0", "1", "w", "s", "x"})
			}
		}
		want, wrong := modelTTL(s)
		if n, err := master.TTL(s); n != want || err != wrong {
			t.Fatalf("TTL(%q) = %d, %d; want %d, %d", s, n, err, want, wrong)
		}
	}
}
