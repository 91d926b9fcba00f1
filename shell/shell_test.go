package shell_test

import (
	"math/rand"
	"slices"
	"strconv"
	"strings"
	"testing"

	"escrow/api"
	"escrow/shell"
)

func TestP2201Words(t *testing.T) {
	for line, want := range map[string][]string{
		"":                       nil,
		" \t ":                   nil,
		"# all":                  nil,
		"  #":                    nil,
		"a":                      {"a"},
		"\ta  b\tc ":             {"a", "b", "c"},
		"a #b \"":                {"a"},
		"a#b c":                  {"a#b", "c"},
		`a\n`:                    {`a\n`},
		`""`:                     {""},
		`"a b"	"c"`:              {"a b", "c"},
		`"\\\"\n\t\x00\xff\x7e"`: {"\\\"\n\t\x00\xff\x7e"},
		"\"\x00\n\x7f\xc3#\" x":  {"\x00\n\x7f\xc3#", "x"},
		"a\x00\n\x0b\xff":        {"a\x00\n\x0b\xff"},
		`"a" #`:                  {"a"},
		`"a"	`:                   {"a"},
		`"\\"`:                   {`\`},
		"\u00a0x":                {"\u00a0x"},
	} {
		if l, e := shell.Words(line); e != api.OK || !slices.Equal(l, want) {
			t.Errorf("%q: %q, %v", line, l, e)
		}
	}
	for _, line := range []string{
		`"`, `"a`, `a"`, `a"b"`, `"a"b`, `"a"#`, `"a""b"`, `"\"`, `"\`, `"\a"`, `"\x"`, `"\x1"`, `"\x1`, `"\x1g"`, `"\xFF"`, `"\xfF"`, `"\X00"`, `"\N"`,
		`ok "`, `ok x" # y`, `"a"` + "\n", `"\x`, `"\ n"`,
	} {
		if l, e := shell.Words(line); e != api.ErrWord || l != nil {
			t.Errorf("%q: %q, %v", line, l, e)
		}
	}
}

func TestP2201Quote(t *testing.T) {
	for s, want := range map[string]string{
		"": `""`, "a b#": `"a b#"`, "\\\"\n\t": `"\\\"\n\t"`, "\x00\x1f \x7e\x7f\x80\xff": `"\x00\x1f ~\x7f\x80\xff"`, "\r": `"\x0d"`, "\u00e4": `"\xc3\xa4"`,
	} {
		if q := shell.Quote([]byte(s)); q != want {
			t.Errorf("%q: %s", s, q)
		}
	}
	rnd := rand.New(rand.NewSource(1))
	for range 3000 {
		b := make([]byte, rnd.Intn(9))
		rnd.Read(b)
		if l, e := shell.Words(" " + shell.Quote(b) + "\t#"); e != api.OK || len(l) != 1 || l[0] != string(b) {
			t.Fatalf("%q: %q, %v", b, l, e)
		}
	}
}

// says runs a script, each of whose lines is followed by what it must say.
func says(t *testing.T, script string) {
	t.Helper()
	var lines, want []string
	for _, l := range strings.Split(strings.TrimSpace(script), "\n") {
		line, said, _ := strings.Cut(strings.TrimSpace(l), " => ")
		lines, want = append(lines, line), append(want, said)
	}
	got := strings.Split(shell.Run(strings.Join(lines, "\n")), "\n")
	if len(got) != len(want)+1 || got[len(want)] != "" {
		t.Fatalf("%d lines, not %d: %q", len(got)-1, len(want), got)
	}
	for i := range want {
		if got[i] != want[i] {
			t.Errorf("line %d, %s: %s, not %s", i+1, lines[i], got[i], want[i])
		}
	}
}

func TestP2202Commands(t *testing.T) {
	says(t, `
		state 0 => ok 0 0 0 0 0 0 0
		values => ok 10 0
		kept => ok 1
		even => ok 1
		up2 "A " 1 3 => ok "a"
		up2 "A " 1 2 => ok "a "
		up2 "A\xff" 3 3 => ok "A\xff"
		up2 x 0 1 => arg
		up2 x 2 1 => new
		do 0 0 1 k v 0 => none
		register 0 => ok
		register 0 => is
		register 3 => none
		register -1 => none
		close 0 => is
		close 1 => none
		close 5 => none
		sync 80 => ok
		state 0 => ok 1 0 0 0 0 0 0
		register 0 => is
		checkout 0 x 21 0 0 10 => ok
		sync 1 => ok
		do 0 0 4 x - 1 => rights
		checkout 0 - 1 0 0 10 => ok
		sync 1 => ok
		checkout 0 x 5 3 2 1001 => arg
		checkout 0 x 5 3 2 10 => ok
		checkout 9 x 5 3 2 10 => none
		sync 2 => ok
		state 0 => ok 1 0 0 0 0 10 0
		do 0 0 4 x "" 5 => ok
		do 0 0 4 x "" 1 => rights
		do 0 2 4 x "" -3 => ok
		do 0 0 5 "" "two words" 1 => ok
		do 0 0 5 "" again 1 => is
		do 0 0 5 "" b 2 => rights
		do 0 0 1 reg " v\xe4 " 0 => ok
		do 0 0 2 set "b c" 0 => ok
		do 0 0 2 set a 0 => ok
		do 0 0 2 set a 0 => ok
		do 0 3 1 k v 0 => arg
		do 0 0 9 k v 0 => kind
		do 7 0 1 k v 0 => none
		read 0 reg => ok " v\xe4 "
		read 0 none => none
		read 1 reg => none
		read 4 reg => none
		members 0 set => ok "a" "b c"
		members 0 none => ok
		members 3 set => none
		count 0 x => ok 2
		count 1 x => ok 0
		count 3 x => none
		state 0 => ok 1 7 0 7 0 10 0
		state 3 => none
		values => ok 12 0
		even => ok 0
		kept => ok 1
		sync 6 => ok
		even => ok 1
		state 0 => ok 1 7 7 0 7 10 0
		count 2 x => ok 2
		members 2 set => ok "a" "b c"
		close 0 => ok
		sync 2 => ok
		reclaim 0 => early
		clock 51 => arg
		clock -1 => arg
		clock 14 => ok
		reclaim 0 => early
		clock 1 => ok
		reclaim 0 => ok
		reclaim 0 => none
		reclaim 3 => none
		crash 0 5 => ok
		crash 3 5 => none
		state 0 => ok 1 7 7 0 7 0 0
		lose 0 => ok
		lose 0 => is
		lose 1 => none
		lose 3 => none
		do 0 0 1 reg x 0 => ok
		sync 3 => ok
		state 0 => ok 1 8 7 1 7 0 1
		do 0 0 1 reg x 0 => fenced
	`)
}

func TestP2202World(t *testing.T) {
	says(t, `
		register 0 => ok
		register 1 => ok
		register 2 => ok
		sync 60 => ok
		checkout 0 x 10 11 0 9 => ok
		sync 1 => ok
		state 0 => ok 1 0 0 0 0 0 0
		checkout 0 x 11 10 0 9 => ok
		sync 1 => ok
		state 0 => ok 1 0 0 0 0 0 0
		checkout 0 x 10 10 50 9 => ok
		checkout 1 y 100 101 0 9 => ok
		sync 1 => ok
		state 0 => ok 1 0 0 0 0 9 0
		state 1 => ok 1 0 0 0 0 0 0
		checkout 1 y 101 100 0 9 => ok
		sync 1 => ok
		state 1 => ok 1 0 0 0 0 0 0
		checkout 1 - 0 0 1 9 => ok
		sync 1 => ok
		state 1 => ok 1 0 0 0 0 0 0
		checkout 1 y 100 100 0 9 => ok
		sync 1 => ok
		state 1 => ok 1 0 0 0 0 9 0
		do 0 0 5 "" last 49 => ok
		do 0 0 5 "" none 50 => rights
		do 1 1 4 y "" 100 => ok
		values => ok 10 100
		lose 0 => ok
		checkout 2 - 0 0 50 8 => ok
		sync 1 => ok
		do 2 0 5 "" again 49 => ok
		state 2 => ok 1 1 0 1 0 8 0
	`)
}

func TestP2202Messages(t *testing.T) {
	says(t, `
		sync 60 => ok
		register 1 => ok
		deliver 0 => none
		drop 0 => none
		twice 0 => none
		send 1 0 => ok
		send 3 0 => none
		send 0 3 => none
		twice 0 => ok
		drop 1 => ok
		drop 1 => none
		deliver 0 => ok
		deliver -1 => none
		deliver 0 => ok
		deliver 0 => none
		state 1 => ok 1 0 0 0 0 0 0
		down 3 => none
		up 0 => none
		down 0 => ok
		down 0 => none
		lose 1 => gone
		up 0 => ok
		up 9 => none
		sync 60 => ok
		lose 1 => ok
	`)
}

func TestP2202Words(t *testing.T) {
	says(t, `
		nothing => word
		"state" "0" => ok 0 0 0 0 0 0 0
		state => word
		state 0 0 => word
		state 00 => word
		state -0 => word
		state +0 => word
		state 0x0 => word
		state "" => word
		state 1_0 => word
		state " 0" => word
		state 1234567890 => word
		state 123456789 => none
		state -123456789 => none
		state a => word
		values 1 => word
		even # comment => ok 1
		state 0" => word
		"x => word
		State 0 => word
		up2 A 1 => word
		up2 A 1 3 3 => word
		checkout 0 - 0 0 0 => word
		do 0 0 1 k v => word
	`)
}

func TestP2202Lines(t *testing.T) {
	for script, want := range map[string]string{
		"":                     "",
		"\n":                   "\n",
		"\n\n":                 "\n\n",
		" \t":                  "\n",
		"#":                    "\n",
		"kept":                 "ok 1\n",
		"kept\n":               "ok 1\n",
		"\nkept\n \n# x\nkept": "\nok 1\n\n\nok 1\n",
		"kept\r\n":             "word\n",
	} {
		if got := shell.Run(script); got != want {
			t.Errorf("%q: %q", script, got)
		}
	}
	if shell.Run("register 0") != "ok\n" || shell.Run("register 0") != "ok\n" {
		t.Error("something remains of an earlier Run")
	}
}

func TestP2202TooLong(t *testing.T) {
	if got := shell.Run(strings.Repeat("\n", 512)); got != strings.Repeat("\n", 512) {
		t.Error("512 lines")
	}
	if got := shell.Run(strings.Repeat("\n", 512) + "x"); got != "long\n" {
		t.Errorf("513 lines: %q", got)
	}
	if got := shell.Run(strings.Repeat("\n", 513)); got != "long\n" {
		t.Errorf("513 lines: %q", got)
	}
	if got := shell.Run("#" + strings.Repeat("x", 65535)); got != "\n" {
		t.Errorf("65536 bytes: %q", got)
	}
	if got := shell.Run("#" + strings.Repeat("x", 65536)); got != "long\n" {
		t.Errorf("65537 bytes: %q", got)
	}
}

func TestP2202MaxAnswer(t *testing.T) {
	text := strings.Repeat(`\x01`, 60) // of 60 bytes, told as 240
	line := "up2 \"" + text + "\" 3 3\n"
	said := "ok \"" + text + "\"\n"
	big := strings.Repeat(`\xff`, 15000)
	script := strings.Repeat("up2 \""+big+"\" 3 3\n", 1)
	saidBig := "ok \"" + big + "\"\n"
	if got := shell.Run(script); got != saidBig {
		t.Fatal("one line")
	}
	// members of a set are told many times over: 180 texts of 40 bytes that need escapes
	var b strings.Builder
	b.WriteString("register 0\nsync 60\n")
	for i := range 180 {
		b.WriteString("do 0 0 2 s " + strings.Repeat("\xff", 37) + strconv.Itoa(100+i) + " 0\n")
	}
	head := b.String()
	headSaid := shell.Run(head)
	one := strings.TrimPrefix(shell.Run(head+"members 0 s\n"), headSaid)
	if len(one) < 20000 {
		t.Fatal(len(one))
	}
	room := api.MaxAnswer - len(headSaid)
	many := room / len(one)
	left := room - many*len(one)
	fill := left/len(said) + 1
	script = head + strings.Repeat("members 0 s\n", many) + strings.Repeat(line, fill) + "\nregister 1\nstate 1\n"
	got := shell.Run(script)
	want := headSaid + strings.Repeat(one, many) + strings.Repeat(said, fill-1) + "long\nlong\nlong\nlong\n"
	if len(script) > api.MaxScript || got != want {
		t.Errorf("%d bytes of script: %q", len(script), got[max(0, len(got)-60):])
	}
	// exactly as many bytes as there may be
	left -= (fill - 1) * len(said)
	pad := left - len("ok \"\"\n")
	if pad < 0 {
		t.Skip("no room for a line that fits exactly")
	}
	script = head + strings.Repeat("members 0 s\n", many) + strings.Repeat(line, fill-1)
	exact := script + "up2 \"" + strings.Repeat("a", pad) + "\" 3 3\n"
	if got := shell.Run(exact); len(got) != api.MaxAnswer || strings.HasSuffix(got, "long\n") {
		t.Errorf("%d bytes of output: %q", len(got), got[len(got)-60:])
	}
	if got := shell.Run(exact + "\nkept\n"); !strings.HasSuffix(got, "a\"\nlong\nlong\n") {
		t.Errorf("%q", got[len(got)-60:])
	}
	more := script + "up2 \"" + strings.Repeat("a", pad+1) + "\" 3 3\n"
	if got := shell.Run(more); !strings.HasSuffix(got, "\nlong\n") {
		t.Errorf("%q", got[len(got)-60:])
	}
}

// A script with lines added says the same as before, and then more; lines that are no commands change nothing.
func TestP2203(t *testing.T) {
	commands := []string{
		"register 0", "register 1", "register 2", "sync 5", "sync 40", "checkout 0 x 3 3 5 20", "checkout 1 y 9 9 5 9", "do 0 0 4 x - 1", "do 1 1 4 y - -2",
		"do 0 0 2 s a 0", "do 1 0 3 s a 0", "do 2 0 1 k V 0", "send 0 0", "send 1 0", "deliver 0", "deliver 1", "twice 0", "drop 0", "clock 7", "crash 0 3", "close 0",
		"reclaim 0", "lose 1", "down 1", "up 1", "read 2 k", "members 0 s", "count 1 x", "state 0", "state 1", "values", "kept", "even", "up2 A 1 2",
	}
	rnd := rand.New(rand.NewSource(1))
	for range 30 {
		var lines, noisy []string
		for range 60 {
			line := commands[rnd.Intn(len(commands))]
			lines = append(lines, line)
			noisy = append(noisy, "", line, "nothing here", "state \"", "# "+line)
		}
		whole := strings.SplitAfter(shell.Run(strings.Join(lines, "\n")), "\n")
		k := rnd.Intn(len(lines))
		if part := shell.Run(strings.Join(lines[:k], "\n")); part != strings.Join(whole[:k], "") {
			t.Fatalf("%q: %q, %q", lines, part, whole)
		}
		said := strings.SplitAfter(shell.Run(strings.Join(noisy, "\n")), "\n")
		for i := range lines {
			if said[5*i] != "\n" || said[5*i+1] != whole[i] || said[5*i+2] != "word\n" || said[5*i+3] != "word\n" || said[5*i+4] != "\n" {
				t.Fatalf("line %d, %s: %q, %q", i, lines[i], said[5*i:5*i+5], whole[i])
			}
			if lines[i] == "kept" && whole[i] != "ok 1\n" {
				t.Fatal("an invariant does not hold")
			}
		}
	}
}
