package shell

import (
	"strings"

	"escrow/api"
)

const (
	blanks = " \t"
	digits = "0123456789abcdef"
)

// Words takes a line to pieces.
func Words(line string) ([]string, api.Errno) {
	var l []string
	for {
		line = strings.TrimLeft(line, blanks)
		if line == "" || line[0] == '#' {
			return l, api.OK
		}
		next := bare
		if line[0] == '"' {
			next = quoted
		}
		word, rest, ok := next(line)
		if !ok {
			return nil, api.ErrWord
		}
		l = append(l, word)
		line = rest
	}
}

// bare takes a word without quotes off a line.
func bare(line string) (word, rest string, ok bool) {
	end := strings.IndexAny(line, blanks)
	if end < 0 {
		end = len(line)
	}
	word = line[:end]
	return word, line[end:], !strings.Contains(word, `"`)
}

// quoted takes a word in quotes off a line.
func quoted(line string) (word, rest string, ok bool) {
	var b []byte
	for i := 1; i < len(line); {
		switch line[i] {
		case '"':
			rest = line[i+1:]
			return string(b), rest, rest == "" || strings.Contains(blanks, rest[:1])
		case '\\':
			x, n := escaped(line[i:])
			if n == 0 {
				return "", "", false
			}
			b = append(b, x)
			i += n
		default:
			b = append(b, line[i])
			i++
		}
	}
	return "", "", false
}

// escaped tells the byte that an escape sequence stands for, and how long the sequence is; 0: it is none.
func escaped(s string) (byte, int) {
	if len(s) < 2 {
		return 0, 0
	}
	switch s[1] {
	case '\\', '"':
		return s[1], 2
	case 'n':
		return '\n', 2
	case 't':
		return '\t', 2
	case 'x':
		if len(s) < 4 {
			return 0, 0
		}
		high, low := strings.IndexByte(digits, s[2]), strings.IndexByte(digits, s[3])
		if high < 0 || low < 0 {
			return 0, 0
		}
		return byte(16*high + low), 4
	}
	return 0, 0
}

// Quote writes bytes as one word.
func Quote(b []byte) string {
	out := []byte{'"'}
	for _, x := range b {
		switch {
		case x == '\\' || x == '"':
			out = append(out, '\\', x)
		case x == '\n':
			out = append(out, '\\', 'n')
		case x == '\t':
			out = append(out, '\\', 't')
		case x < 32 || x > 126:
			out = append(out, '\\', 'x', digits[x/16], digits[x%16])
		default:
			out = append(out, x)
		}
	}
	return string(append(out, '"'))
}
