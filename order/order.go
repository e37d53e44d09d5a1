// Package order is layer 1: keys as bytes that are in their order.
package order

import (
	"cmp"

	"duramen/api"
)

// What the bytes of a part begin with; numbers are ahead of texts.
const (
	numberMark = 1
	textMark   = 2
)

// A text ends with 0 and textEnd, which no byte of a text is put as: behind each 0 of its own stands escaped.
const (
	textEnd = 1
	escaped = 255
)

// A number is put with its sign turned over, so that those below 0 are ahead of the others.
const (
	numberSize = 8
	signBit    = 1 << 63
)

// Write is the bytes of the tuple l.
func Write(l []api.Part) []byte {
	var b []byte
	for _, p := range l {
		if p.IsText {
			b = putText(append(b, textMark), p.Text)
		} else {
			b = putNumber(append(b, numberMark), p.Number)
		}
	}
	return b
}

// Read is the tuple whose bytes b are: ErrShort, if they end within a part, ErrBytes, if they are none's otherwise.
func Read(b []byte) ([]api.Part, api.Errno) {
	var l []api.Part
	for len(b) > 0 {
		p, rest, e := readPart(b)
		if e != api.OK {
			return nil, e
		}
		l = append(l, p)
		b = rest
	}
	return l, api.OK
}

// Compare tells the order of the tuples a and b: -1, 0 or 1.
func Compare(a, b []api.Part) int {
	for i := range min(len(a), len(b)) {
		if c := comparePart(a[i], b[i]); c != 0 {
			return c
		}
	}
	return cmp.Compare(len(a), len(b))
}

// Key is the key of a table and a text: ErrArg, if there is no such table, ErrLong, if the text is too long.
func Key(table int, text string) (string, api.Errno) {
	if !isTable(table) {
		return "", api.ErrArg
	}
	if len(text) > api.MaxKey {
		return "", api.ErrLong
	}
	return string(Write([]api.Part{{Number: table}, {IsText: true, Text: text}})), api.OK
}

// Split is the table and the text of a key: Read's error of its bytes, or ErrBytes, if it is no key.
func Split(key string) (int, string, api.Errno) {
	l, e := Read([]byte(key))
	if e != api.OK {
		return 0, "", e
	}
	if !isKey(l) {
		return 0, "", api.ErrBytes
	}
	return l[0].Number, l[1].Text, api.OK
}

func isTable(n int) bool {
	return n >= 0 && n < api.MaxTables
}

func isKey(l []api.Part) bool {
	if len(l) != 2 || l[0].IsText || !l[1].IsText {
		return false
	}
	return isTable(l[0].Number) && len(l[1].Text) <= api.MaxKey
}

func comparePart(a, b api.Part) int {
	switch {
	case a.IsText && b.IsText:
		return cmp.Compare(a.Text, b.Text)
	case a.IsText:
		return 1
	case b.IsText:
		return -1
	}
	return cmp.Compare(a.Number, b.Number)
}

func putNumber(b []byte, n int) []byte {
	u := uint64(n) ^ signBit
	for i := range numberSize {
		b = append(b, byte(u>>(56-8*i)))
	}
	return b
}

func putText(b []byte, text string) []byte {
	for i := range len(text) {
		b = append(b, text[i])
		if text[i] == 0 {
			b = append(b, escaped)
		}
	}
	return append(b, 0, textEnd)
}

// readPart reads the part at the beginning of b, which has a byte at least, and tells what stands behind it.
func readPart(b []byte) (api.Part, []byte, api.Errno) {
	switch b[0] {
	case numberMark:
		n, rest, e := readNumber(b[1:])
		return api.Part{Number: n}, rest, e
	case textMark:
		text, rest, e := readText(b[1:])
		return api.Part{IsText: true, Text: text}, rest, e
	}
	return api.Part{}, nil, api.ErrBytes
}

func readNumber(b []byte) (int, []byte, api.Errno) {
	if len(b) < numberSize {
		return 0, nil, api.ErrShort
	}
	var u uint64
	for _, c := range b[:numberSize] {
		u = u<<8 | uint64(c)
	}
	return int(u ^ signBit), b[numberSize:], api.OK
}

func readText(b []byte) (string, []byte, api.Errno) {
	var text []byte
	i := 0
next:
	if i == len(b) {
		return "", nil, api.ErrShort
	}
	if b[i] != 0 {
		text = append(text, b[i])
		i++
		goto next
	}
	// Whether a 0 is the text's own, or its end, the byte behind it tells.
	if i+1 == len(b) {
		return "", nil, api.ErrShort
	}
	switch b[i+1] {
	case escaped:
		text = append(text, 0)
		i += 2
		goto next
	case textEnd:
		return string(text), b[i+2:], api.OK
	}
	return "", nil, api.ErrBytes
}
