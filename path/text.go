package path

import (
	"strings"

	"provision/address"
	"provision/api"
	"provision/number"
	"provision/strlit"
)

// Format returns the text of p.
func Format(p []api.PathStep) string {
	// The text of a path that is not valid may need more memory than there is.
	if Check(p) != api.OK {
		return ""
	}
	var text strings.Builder
	for i, step := range p {
		text.WriteString(formatStep(step, i == 0))
	}
	return text.String()
}

// formatStep returns the text of a step.
func formatStep(step api.PathStep, first bool) string {
	switch {
	case step.Index:
		return "[" + number.Format(step.Num) + "]"
	case !address.Identifier(step.Name):
		return "[" + strlit.Quote(step.Name) + "]"
	case first:
		return step.Name
	}
	return "." + step.Name
}

// Parse returns the path with the text s.
func Parse(s string) ([]api.PathStep, api.Errno) {
	if len(s) > api.MaxText {
		return nil, api.ErrTooLong
	}
	var p []api.PathStep
	for rest := s; rest != ""; {
		if len(p) == api.MaxDepth {
			return nil, api.ErrTooDeep
		}
		step, size, e := readStep(rest, len(p) == 0)
		if e != api.OK {
			return nil, e
		}
		p = append(p, step)
		rest = rest[size:]
	}
	// A path can be written in other ways than that of its text: an identifier as a
	// literal, and a string as several literals.
	if Format(p) != s {
		return nil, api.ErrSyntax
	}
	return p, api.OK
}

// readStep returns the step at the beginning of s, which is not empty, and the
// number of its bytes.
func readStep(s string, first bool) (api.PathStep, int, api.Errno) {
	switch {
	case s[0] == '[':
		return readBrackets(s)
	case first:
		return readName(s)
	case s[0] != '.':
		return api.PathStep{}, 0, api.ErrSyntax
	}
	step, size, e := readName(s[1:])
	return step, size + 1, e
}

// readName returns the step that is the identifier at the beginning of s, and the
// number of its bytes.
func readName(s string) (api.PathStep, int, api.Errno) {
	size := strings.IndexAny(s, ".[")
	if size < 0 {
		size = len(s)
	}
	if !address.Identifier(s[:size]) {
		return api.PathStep{}, 0, api.ErrSyntax
	}
	return api.PathStep{Name: strings.Clone(s[:size])}, size, api.OK
}

// readBrackets does the same for a step in brackets, with them.
func readBrackets(s string) (api.PathStep, int, api.Errno) {
	inside := s[1:]
	read := readIndex
	if strings.HasPrefix(inside, `"`) {
		read = readLiteral
	}
	step, size, e := read(inside)
	switch {
	case e != api.OK:
		return api.PathStep{}, 0, e
	case !strings.HasPrefix(inside[size:], "]"):
		return api.PathStep{}, 0, api.ErrSyntax
	}
	return step, size + 2, api.OK
}

// readLiteral does the same for a literal.
func readLiteral(s string) (api.PathStep, int, api.Errno) {
	name, size, e := strlit.Unquote(s)
	return api.PathStep{Name: name}, size, e
}

// readIndex does the same for the digits at the beginning of s.
func readIndex(s string) (api.PathStep, int, api.Errno) {
	size := 0
	for size < len(s) && '0' <= s[size] && s[size] <= '9' {
		size++
	}
	n, e := number.Parse(s[:size])
	return api.PathStep{Index: true, Num: n}, size, e
}
