package memory_test

import (
	"math/rand"
	"strings"
	"testing"

	"perigee/api"
	"perigee/memory"
)

// M5.
func TestText(t *testing.T) {
	for _, c := range []struct {
		want string
		b    api.Bank
	}{
		{"0 0\n", bankWith(0)},
		{"2097159 1\n", bankOf(1)},
		{"7 8\n9 10\n", api.Bank{Codes: []int{7, 9}, Saved: []int{8, 10}}},
		{"4194303 65535\n0 65535\n4194303 0\n", api.Bank{Codes: []int{api.MaxCode, 0, api.MaxCode}, Saved: []int{api.MaxWord, api.MaxWord, 0}}},
	} {
		s, f := memory.Text(c.b)
		wantFault(t, c.want, f, api.OK)
		wantSame(t, c.want, s, c.want)
		b, line, f := memory.ReadText(c.want)
		wantFault(t, c.want, f, api.OK)
		wantBank(t, c.want, b, c.b)
		wantSame(t, c.want, line, 0)
	}
	wrongBanks(func(name string, b api.Bank, want api.Fault) {
		s, f := memory.Text(b)
		wantFault(t, name, f, want)
		wantSame(t, name, s, "")
	})
}

func TestReadTextOfTextIsTheBank(t *testing.T) {
	r := rand.New(rand.NewSource(6))
	for n := range 200 {
		b := randomBank(r, 20)
		if n == 0 {
			b = manyWords(api.MaxWords)
		}
		s, f := memory.Text(b)
		wantFault(t, "Text", f, api.OK)
		again, line, f := memory.ReadText(s)
		wantFault(t, "ReadText", f, api.OK)
		wantBank(t, "ReadText", again, b)
		wantSame(t, "ReadText", line, 0)
	}
}

func TestReadTextSyntax(t *testing.T) {
	for _, c := range []struct{ name, line string }{
		{"empty", "\n"},
		{"one number", "5\n"},
		{"three numbers", "5 6 7\n"},
		{"a blank before", " 5 6\n"},
		{"a blank behind", "5 6 \n"},
		{"two blanks", "5  6\n"},
		{"a blank alone", " \n"},
		{"a tab", "5\t6\n"},
		{"a carriage return", "5 6\r\n"},
		{"a needless 0", "05 6\n"},
		{"a needless 0 later", "5 06\n"},
		{"two zeros", "5 00\n"},
		{"a minus", "-5 6\n"},
		{"a minus before 0", "5 -0\n"},
		{"a plus", "5 +6\n"},
		{"a letter", "5 a\n"},
		{"the byte before 0", "5 6/\n"},
		{"the byte behind 9", "5 6:\n"},
		{"an underscore", "5 6_0\n"},
		{"hexadecimal", "0x5 6\n"},
		{"a digit that is no byte", "5 \u0665\n"},
		{"ten digits", "1000000000 6\n"},
		{"ten digits later", "5 1000000000\n"},
		{"very many digits", "5 18446744073709551622\n"},
		{"no end", "5 6"},
		{"no end and no form", "5"},
	} {
		for before, lines := range map[int]string{0: "", 1: "0 0\n", 3: "0 0\n9999999 0\n2 2\n"} {
			b, line, f := memory.ReadText(lines + c.line)
			wantFault(t, c.name, f, api.ErrSyntax)
			wantBank(t, c.name, b, api.Bank{})
			wantSame(t, c.name, line, before+1)
			if strings.HasSuffix(c.line, "\n") {
				_, line, _ = memory.ReadText(lines + c.line + "1\n8 8")
				wantSame(t, c.name+", with others behind", line, before+1)
			}
		}
	}
}

func TestReadTextFaults(t *testing.T) {
	for _, c := range []struct {
		name, text string
		want       api.Fault
		line       int
	}{
		{"nothing", "", api.ErrNone, 0},
		{"code above", "4194304 0\n", api.ErrRange, 0},
		{"code of nine digits", "1 1\n999999999 0\n", api.ErrRange, 0},
		{"saved above", "0 65536\n", api.ErrRange, 0},
		{"saved of nine digits", "0 999999999\n", api.ErrRange, 0},
		{"too many words", strings.Repeat("1 1\n", api.MaxWords+1), api.ErrLarge, 0},
		{"too many before range", strings.Repeat("9999999 1\n", api.MaxWords+1), api.ErrLarge, 0},
		{"syntax before too many", strings.Repeat("1 1\n", api.MaxWords+1) + "1\n", api.ErrSyntax, api.MaxWords + 2},
		{"syntax before range", "4194304 0\n1\n", api.ErrSyntax, 2},
		{"too many bytes", strings.Repeat("x", api.MaxBankText+1), api.ErrLarge, 0},
		{"just as many bytes", strings.Repeat("x", api.MaxBankText), api.ErrSyntax, 1},
	} {
		b, line, f := memory.ReadText(c.text)
		wantFault(t, c.name, f, c.want)
		wantBank(t, c.name, b, api.Bank{})
		wantSame(t, c.name, line, c.line)
	}
	most := strings.Repeat("1 1\n", api.MaxWords)
	b, line, f := memory.ReadText(most)
	wantFault(t, "most", f, api.OK)
	wantSame(t, "most", []int{len(b.Codes), len(b.Saved), line}, []int{api.MaxWords, api.MaxWords, 0})
}
