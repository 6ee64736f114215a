package lex

import (
	"strings"

	"starling/api"
	"starling/value"
)

// Print tells tokens as a text of which Lex tells them again.
func Print(l []api.Token) (string, api.Errno) {
	if len(l) > api.MaxTokens {
		return "", api.ErrMany
	}
	words := make([]string, 0, len(l))
	for _, token := range l {
		word, err := shown(token)
		if err != api.OK {
			return "", err
		}
		words = append(words, word)
	}
	s := strings.Join(words, " ")
	if len(s) > api.MaxSql {
		return "", api.ErrMany
	}
	return s, api.OK
}

// shown tells one token.
func shown(t api.Token) (string, api.Errno) {
	if t.Kind < api.Word || t.Kind > api.Sign {
		return "", api.ErrKind
	}
	if t.N != 0 && t.Kind != api.Number || t.S != "" && t.Kind == api.Number {
		return "", api.ErrForm
	}
	switch t.Kind {
	case api.Word:
		return shownWord(t.S)
	case api.Number:
		if t.N < 0 {
			return "", api.ErrRange
		}
		return value.Show(api.Value{Kind: api.Int, N: t.N})
	case api.Quote:
		return value.Show(api.Value{Kind: api.Text, S: t.S})
	case api.Bytes:
		return value.Show(api.Value{Kind: api.Blob, S: t.S})
	}
	return shownSign(t.S)
}

func shownWord(s string) (string, api.Errno) {
	size := run(s, func(b byte) bool { return isSmall(b) || isDigit(b) })
	switch {
	case s == "" || !isSmall(s[0]) || size < len(s):
		return "", api.ErrForm
	case size > api.MaxName:
		return "", api.ErrMany
	}
	return s, api.OK
}

func shownSign(s string) (string, api.Errno) {
	token, size, err := signOf(s)
	if err != api.OK || size != len(s) {
		return "", api.ErrForm
	}
	return token.S, api.OK
}

// Reserved tells whether a word has a meaning of its own, so that nothing may be named by it.
func Reserved(s string) bool {
	switch s {
	case "and", "any", "as", "asc", "begin", "between", "blob", "by", "commit", "count", "create",
		"delete", "desc", "distinct", "drop", "from", "group", "in", "insert", "integer", "into", "is",
		"like", "limit", "max", "min", "not", "null", "offset", "or", "order", "rollback", "select",
		"set", "sum", "table", "text", "unique", "update", "values", "where":
		return true
	}
	return false
}
