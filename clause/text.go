package clause

import (
	"bytes"
	"strconv"

	"proofmark/api"
)

// Put: P5.7.
func Put(f Formula) ([]byte, api.Errno) {
	if !Right(f) {
		return nil, api.ErrArg
	}
	text := []byte("p cnf ")
	text = strconv.AppendInt(text, int64(f.Vars), 10)
	text = append(text, ' ')
	text = strconv.AppendInt(text, int64(len(f.Clauses)), 10)
	text = append(text, '\n')
	for _, c := range f.Clauses {
		for _, l := range c {
			text = strconv.AppendInt(text, int64(l), 10)
			text = append(text, ' ')
		}
		text = append(text, '0', '\n')
	}
	return text, api.OK
}

// Get: P5.7. What is read loosely is held against its own text, so that no rule of the text is told twice.
func Get(b []byte) (Formula, api.Errno) {
	f, ok := read(b)
	if !ok {
		return Formula{}, api.ErrArg
	}
	if text, err := Put(f); err != api.OK || !bytes.Equal(text, b) {
		return Formula{}, api.ErrArg
	}
	return f, api.OK
}

// read takes a text's third word as how many variables there are, and all numbers of each further line but the last one as a clause.
func read(b []byte) (Formula, bool) {
	first, rest, _ := bytes.Cut(b, []byte("\n"))
	head := bytes.Fields(first)
	if len(head) < 3 {
		return Formula{}, false
	}
	vars, err := strconv.Atoi(string(head[2]))
	if err != nil {
		return Formula{}, false
	}
	f := Formula{Vars: vars}
	for len(rest) > 0 {
		var line []byte
		line, rest, _ = bytes.Cut(rest, []byte("\n"))
		c, ok := readClause(line)
		if !ok {
			return Formula{}, false
		}
		f.Clauses = append(f.Clauses, c)
	}
	return f, true
}

func readClause(line []byte) ([]int, bool) {
	var c []int
	for _, word := range bytes.Fields(line) {
		l, err := strconv.Atoi(string(word))
		if err != nil {
			return nil, false
		}
		c = append(c, l)
	}
	if len(c) == 0 {
		return nil, false
	}
	return c[:len(c)-1], true
}
