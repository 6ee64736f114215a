package record

import (
	"strings"

	"starling/api"
)

// Bytes with which a value in a key begins: they rise as the kinds do.
const (
	keyNull = 5
	keyInt  = 16
	keyText = 32
	keyBlob = 48
)

// Bytes behind a byte 0 in a key: the end is the lesser one, so that a text stands ahead of those that go on.
const (
	keyEnd  = 1
	keyZero = 255
)

const (
	intBytes = 8
	topBit   = 1 << 63 // turned, it sets numbers below 0 ahead of the others
)

// Key tells a row as bytes that stand in the order of rows.
func Key(l []api.Value) (string, api.Errno) {
	if err := checkRow(l); err != api.OK {
		return "", err
	}
	var key []byte
	for _, v := range l {
		switch v.Kind {
		case api.Null:
			key = append(key, keyNull)
		case api.Int:
			key = appendInt(append(key, keyInt), v.N)
		case api.Text:
			key = appendText(append(key, keyText), v.S)
		case api.Blob:
			key = appendText(append(key, keyBlob), v.S)
		}
	}
	return string(key), api.OK
}

func appendInt(key []byte, n int64) []byte {
	turned := uint64(n) ^ topBit
	for i := range intBytes {
		key = append(key, byte(turned>>(8*(intBytes-1-i))))
	}
	return key
}

func appendText(key []byte, s string) []byte {
	for i := range len(s) {
		key = append(key, s[i])
		if s[i] == 0 {
			key = append(key, keyZero)
		}
	}
	return append(key, 0, keyEnd)
}

// Unkey answers the row of a key.
func Unkey(s string) ([]api.Value, api.Errno) {
	var row []api.Value
	r := reader{rest: s}
	if err := attempt(func() { row = r.keyRow() }); err != api.OK {
		return nil, err
	}
	return row, api.OK
}

// keyRow takes what Key tells, up to the end of the text.
func (r *reader) keyRow() []api.Value {
	var row []api.Value
	for r.rest != "" {
		if len(row) == api.MaxRow {
			panic(gaveUp{api.ErrMany})
		}
		row = append(row, r.keyValue())
	}
	return row
}

func (r *reader) keyValue() api.Value {
	switch r.next(api.ErrForm) {
	case keyNull:
		return api.Value{}
	case keyInt:
		return api.Value{Kind: api.Int, N: r.keyInt()}
	case keyText:
		return api.Value{Kind: api.Text, S: r.keyText()}
	case keyBlob:
		return api.Value{Kind: api.Blob, S: r.keyText()}
	}
	panic(gaveUp{api.ErrForm})
}

func (r *reader) keyInt() int64 {
	eight := r.take(intBytes, api.ErrForm)
	turned := uint64(0)
	for i := range intBytes {
		turned = turned<<8 + uint64(eight[i])
	}
	return int64(turned ^ topBit)
}

// keyText takes a text and its end. Its length is looked at last: that it has an end is told first.
func (r *reader) keyText() string {
	var text strings.Builder
	for {
		b := r.next(api.ErrForm)
		if b != 0 {
			text.WriteByte(b)
			continue
		}
		switch r.next(api.ErrForm) {
		case keyZero:
			text.WriteByte(0)
		case keyEnd:
			if text.Len() > api.MaxText {
				panic(gaveUp{api.ErrMany})
			}
			return text.String()
		default:
			panic(gaveUp{api.ErrForm})
		}
	}
}
