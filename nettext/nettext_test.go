package nettext

import (
	"math/rand"
	"slices"
	"strconv"
	"strings"
	"testing"

	"petrinet/api"
	"petrinet/net"
	"petrinet/nettest"
)

func fault(e api.Errno, at int) api.Fault {
	return api.Fault{Errno: e, At: at}
}

func TestLines(t *testing.T) {
	for _, c := range []struct {
		s    string
		want []string
	}{
		{"", nil},
		{"\n", []string{""}},
		{"a", []string{"a"}},
		{"a\n", []string{"a"}},
		{"a\n\n", []string{"a", ""}},
		{"\n\n a \t~# b\n\nc", []string{"", "", " a \t~# b", "", "c"}},
		{strings.Repeat("\n", api.MaxLines), make([]string, api.MaxLines)},
		{strings.Repeat("\n", api.MaxLines-1) + "a", append(make([]string, api.MaxLines-1), "a")},
		{strings.Repeat("a", api.MaxText), []string{strings.Repeat("a", api.MaxText)}},
	} {
		if l, f := Lines(c.s); f != (api.Fault{}) || !slices.Equal(l, c.want) {
			t.Errorf("%.20q: %.200q %v", c.s, l, f)
		}
	}
	for _, c := range []struct {
		s string
		f api.Fault
	}{
		{strings.Repeat("a", api.MaxText+1), fault(api.ErrSize, 0)},
		{strings.Repeat("\n", api.MaxLines+1), fault(api.ErrSize, 0)},
		{strings.Repeat("\n", api.MaxLines) + "a", fault(api.ErrSize, 0)},
		{strings.Repeat("\r\n", api.MaxLines+1), fault(api.ErrSize, 0)},
		{"\r", fault(api.ErrSyntax, 1)},
		{"a\n\x00\n\x01", fault(api.ErrSyntax, 2)},
		{"\n\n\x7f", fault(api.ErrSyntax, 3)},
		{"# é\n", fault(api.ErrSyntax, 1)},
		{"a\n\x80\n", fault(api.ErrSyntax, 2)},
		{"\xff", fault(api.ErrSyntax, 1)},
		{"\v", fault(api.ErrSyntax, 1)},
		{"\x1f", fault(api.ErrSyntax, 1)},
	} {
		if l, f := Lines(c.s); f != c.f || len(l) != 0 {
			t.Errorf("%.20q: %.200q %v, want %v", c.s, l, f, c.f)
		}
	}
}

func TestFields(t *testing.T) {
	for _, c := range []struct {
		line string
		want []string
	}{
		{"", nil},
		{" \t ", nil},
		{"# a b", nil},
		{"a", []string{"a"}},
		{"\t a  b\tc ", []string{"a", "b", "c"}},
		{"a b#c d # e", []string{"a", "b"}},
		{"a\nb é\xff\r", []string{"a\nb", "é\xff\r"}},
	} {
		if l := Fields(c.line); !slices.Equal(l, c.want) {
			t.Errorf("%q: %q", c.line, l)
		}
	}
}

func TestNumber(t *testing.T) {
	for _, n := range []int{0, 1, 9, 10, 99, 12345, api.MaxTokens - 1, api.MaxTokens} {
		if x, ok := Number(strconv.Itoa(n)); x != n || !ok {
			t.Error(n, x, ok)
		}
	}
	for _, s := range []string{"", "-1", "+1", "-0", "00", "01", "1 ", " 1", "1a", "a", "0x1", "1_0", "1.0", "1048577", "99999999999999999999", "١"} {
		if x, ok := Number(s); x != 0 || ok {
			t.Error(s, x, ok)
		}
	}
}

// sample has all that a text can have.
func sample() api.Net {
	return api.Net{
		Name:   "sample",
		Places: []api.Place{{Name: "p", Init: 1}, {Name: "q", Init: 2, Cap: 3}, {Name: "in"}},
		Trans: []api.Trans{
			{Name: "t", Pre: []api.Arc{{Place: 0, W: 1}, {Place: 2, W: 99}}, Post: []api.Arc{{Place: 1, W: 2}}, Inh: []api.Arc{{Place: 0, W: 1}}, Prio: 9},
			{Name: "trans"},
		},
	}
}

const sampleText = "net sample\nplace p 1\nplace q 2 cap 3\nplace in 0\ntrans t prio 9\nin p\nin in 99\nout q 2\ninh p\ntrans trans\n"

func TestPrint(t *testing.T) {
	if s, f := Print(sample()); s != sampleText || f != (api.Fault{}) {
		t.Errorf("%q %v", s, f)
	}
	n := sample()
	n.Trans[1].Name = "t"
	if s, f := Print(n); s != "" || f != fault(api.ErrTwice, 4) {
		t.Errorf("%q %v", s, f)
	}
	if s, f := Print(api.Net{}); s != "" || f != fault(api.ErrName, 0) {
		t.Errorf("%q %v", s, f)
	}
}

func TestParse(t *testing.T) {
	for _, s := range []string{
		sampleText,
		"\n# a comment\n net\tsample #x\nplace p 1 cap 0\n\nplace q 2 cap 3\nplace in 0#\ntrans t prio 9\nin p 1\nin in 99\nout q 2\ninh p\n\ntrans trans prio 0",
	} {
		if n, f := Parse(s); f != (api.Fault{}) || !net.Same(n, sample()) {
			t.Errorf("%q: %v %v", s, n, f)
		}
	}
	n, f := Parse("net a\nplace p 1\ntrans t\nin p\n")
	if f != (api.Fault{}) || !net.Same(n, api.Net{Name: "a", Places: []api.Place{{Name: "p", Init: 1}}, Trans: []api.Trans{{Name: "t", Pre: []api.Arc{{Place: 0, W: 1}}}}}) {
		t.Error(n, f)
	}
}

const two = "net a\nplace p 1\nplace q 2\n"

// faulty texts, of which each has its first fault in a line, often with faults that come later in the order of the document.
var faulty = []struct {
	s string
	f api.Fault
}{
	{"", fault(api.ErrEmpty, 0)},
	{"\n # net a\n\t\n", fault(api.ErrEmpty, 0)},
	{strings.Repeat("#", api.MaxText+1), fault(api.ErrSize, 0)},
	{"nets a\nplace\x00", fault(api.ErrSyntax, 2)},
	{"place p 1\n", fault(api.ErrSyntax, 1)},
	{"\ntrans t\n", fault(api.ErrSyntax, 2)},
	{"x\n", fault(api.ErrSyntax, 1)},
	{"net a\nnet a\n", fault(api.ErrSyntax, 2)},
	{"net a\n\nNET\n", fault(api.ErrSyntax, 3)},
	{"net a\ncap 1\n", fault(api.ErrSyntax, 2)},
	{"net\n", fault(api.ErrSyntax, 1)},
	{"net A b\n", fault(api.ErrSyntax, 1)},
	{"net A\nnet b\n", fault(api.ErrName, 1)},
	{"net abcdefghijklmnopq\n", fault(api.ErrName, 1)},
	{two + "trans t\nplace r 1\n", fault(api.ErrSyntax, 5)},
	{two + "trans t\nplace R 01\n", fault(api.ErrSyntax, 5)},
	{two + "in p\n", fault(api.ErrSyntax, 4)},
	{two + "inh r 200\n", fault(api.ErrSyntax, 4)},
	{two + "trans t\nout p\nin q\n", fault(api.ErrSyntax, 6)},
	{two + "trans t\ninh p\nout x\n", fault(api.ErrSyntax, 6)},
	{two + "trans t\ninh p\nin q\n", fault(api.ErrSyntax, 6)},
	{two + "trans t\ninh q\ntrans u\nin p\nout p\ninh p\n", fault(api.OK, 0)},
	{"net a\nplace p\n", fault(api.ErrSyntax, 2)},
	{"net a\nplace\n", fault(api.ErrSyntax, 2)},
	{"net a\nplace p x\n", fault(api.ErrSyntax, 2)},
	{"net a\nplace P 01\n", fault(api.ErrSyntax, 2)},
	{"net a\nplace p -1\n", fault(api.ErrSyntax, 2)},
	{"net a\nplace p 1048577\n", fault(api.ErrSyntax, 2)},
	{"net a\nplace p 1 cap\n", fault(api.ErrSyntax, 2)},
	{"net a\nplace p 1 2\n", fault(api.ErrSyntax, 2)},
	{"net a\nplace p 1 prio 2\n", fault(api.ErrSyntax, 2)},
	{"net a\nplace p 1 cap 2 3\n", fault(api.ErrSyntax, 2)},
	{"net a\nplace p 1 cap x\n", fault(api.ErrSyntax, 2)},
	{two + "trans\n", fault(api.ErrSyntax, 4)},
	{two + "trans t prio\n", fault(api.ErrSyntax, 4)},
	{two + "trans t 1\n", fault(api.ErrSyntax, 4)},
	{two + "trans t cap 1\n", fault(api.ErrSyntax, 4)},
	{two + "trans p prio 01\n", fault(api.ErrSyntax, 4)},
	{two + "trans t prio 1 2\n", fault(api.ErrSyntax, 4)},
	{two + "trans t\nin\n", fault(api.ErrSyntax, 5)},
	{two + "trans t\nin x +1\n", fault(api.ErrSyntax, 5)},
	{two + "trans t\nin p 1 1\n", fault(api.ErrSyntax, 5)},
	{"net a\nplace 1p 1\nplace x\n", fault(api.ErrName, 2)},
	{two + "trans T\n", fault(api.ErrName, 4)},
	{two + "\nplace p 1\n", fault(api.ErrTwice, 5)},
	{two + "trans q\n", fault(api.ErrTwice, 4)},
	{two + "trans t\ntrans t prio 99\n", fault(api.ErrTwice, 5)},
	{two + "trans t\nin r\n", fault(api.ErrNone, 5)},
	{two + "trans t\nin t\n", fault(api.ErrNone, 5)},
	{two + "trans t\nin Q 0\n", fault(api.ErrNone, 5)},
	{two + "trans t\nin p\nin p\n", fault(api.ErrOrder, 6)},
	{two + "trans t\nin q\nin p 0\n", fault(api.ErrOrder, 6)},
	{two + "trans t\nout q\n\nout p 0\n", fault(api.ErrOrder, 7)},
	{two + "trans t\ninh q\ninh q\n", fault(api.ErrOrder, 6)},
	// An error is found in its line, also if more lines follow.
	{two + "place p 1\n\n", fault(api.ErrTwice, 4)},
	{two + "trans p\n#\n", fault(api.ErrTwice, 4)},
	{two + "trans t\ntrans t\n#\n", fault(api.ErrTwice, 5)},
	{two + "trans t\nin p\nin p\n#\n", fault(api.ErrOrder, 6)},
	{two + "trans t\nin q\nin p\nx\n", fault(api.ErrOrder, 6)},
	// The errors of net.Check have the number of lines.
	{"net a\n\n\n", fault(api.ErrSize, 3)},
	{two + "trans t\nin p 0\n\n#\n", fault(api.ErrWeight, 7)},
	{two + "trans t\nin p 100\nin q\nin q\n", fault(api.ErrOrder, 7)},
	{two + "trans t\nin p 100", fault(api.ErrWeight, 5)},
	{two + "trans t prio 10\nin p 100", fault(api.ErrRange, 5)},
	{"net a\nplace p 3 cap 2\ntrans t prio 10\n", fault(api.ErrInit, 3)},
	{"net a\n" + places(25), fault(api.ErrSize, 26)},
	{"net a\nplace x 5 cap 4\n" + places(24), fault(api.ErrSize, 26)},
	{"net a\n" + places(24) + transitions(25), fault(api.ErrSize, 50)},
}

func places(n int) string {
	var s strings.Builder
	for i := range n {
		s.WriteString("place p" + strconv.Itoa(i) + " 0\n")
	}
	return s.String()
}

func transitions(n int) string {
	var s strings.Builder
	for i := range n {
		s.WriteString("trans t" + strconv.Itoa(i) + "\n")
	}
	return s.String()
}

func TestParseFaults(t *testing.T) {
	for _, c := range faulty {
		n, f := Parse(c.s)
		if f != c.f {
			t.Errorf("%q: %v, want %v", c.s, f, c.f)
		}
		if f.Errno != api.OK && (n.Name != "" || len(n.Places) != 0 || len(n.Trans) != 0) {
			t.Errorf("%q: the net %v with a fault", c.s, n)
		}
	}
}

func TestParseOfPrint(t *testing.T) {
	for seed := range uint64(500) {
		n := nettest.Random(seed, nettest.Shape{Places: 6, Trans: 6, Tokens: 1000, Weight: 99, Cap: 2, Inh: 99, Prio: 9})
		s, f := Print(n)
		if f != (api.Fault{}) {
			t.Fatal(n, f)
		}
		if back, f := Parse(s); f != (api.Fault{}) || !net.Same(back, n) {
			t.Fatalf("%q: %v %v", s, back, f)
		}
	}
}

func TestLargestNet(t *testing.T) {
	n := api.Net{Name: strings.Repeat("n", api.MaxName)}
	var arcs []api.Arc
	for p := range api.MaxPlaces {
		n.Places = append(n.Places, api.Place{Name: strings.Repeat("p", 14) + strconv.Itoa(10+p), Init: api.MaxTokens, Cap: api.MaxTokens})
		arcs = append(arcs, api.Arc{Place: p, W: api.MaxWeight})
	}
	for i := range api.MaxTrans {
		n.Trans = append(n.Trans, api.Trans{Name: strings.Repeat("t", 14) + strconv.Itoa(10+i), Pre: arcs, Post: arcs, Inh: arcs, Prio: api.MaxPrio})
	}
	s, f := Print(n)
	if f != (api.Fault{}) {
		t.Fatal(f)
	}
	if back, f := Parse(s); f != (api.Fault{}) || !net.Same(back, n) {
		t.Error(f)
	}
}

func TestSpacesAndComments(t *testing.T) {
	r := rand.New(rand.NewSource(10))
	for _, c := range faulty {
		if len(c.s) > 1000 {
			continue
		}
		var s strings.Builder
		number, last := 0, 0
		var numbers []int
		for line := range strings.Lines(c.s) {
			for range r.Intn(3) {
				s.WriteString([]string{"\n", "# net x\n", " \t\n"}[r.Intn(3)])
				number++
			}
			number++
			numbers = append(numbers, number)
			words := strings.ReplaceAll(strings.TrimSuffix(line, "\n"), " ", " \t ")
			s.WriteString("\t" + words + " # x\n")
			last = number
		}
		want := c.f
		if want.At > 0 {
			want.At = numbers[want.At-1]
		}
		if _, f := Parse(s.String()); f != want {
			t.Errorf("%q: %v, want %v of %d lines", s.String(), f, want, last)
		}
	}
}

func TestChangedTexts(t *testing.T) {
	r := rand.New(rand.NewSource(11))
	const letters = "pqt 01\n#nci-"
	for range 20000 {
		s := []byte(sampleText)
		for range 1 + r.Intn(3) {
			i := r.Intn(len(s))
			switch r.Intn(3) {
			case 0:
				s[i] = letters[r.Intn(len(letters))]
			case 1:
				s = slices.Delete(s, i, i+1)
			default:
				s = slices.Insert(s, i, letters[r.Intn(len(letters))])
			}
		}
		n, f := Parse(string(s))
		if f.Errno != api.OK {
			if f.At < 1 || len(n.Places) > 0 {
				t.Fatalf("%q: %v %v", s, n, f)
			}
			continue
		}
		text, g := Print(n)
		back, h := Parse(text)
		if g != (api.Fault{}) || h != (api.Fault{}) || !net.Same(back, n) {
			t.Fatalf("%q: %v", s, n)
		}
	}
}
