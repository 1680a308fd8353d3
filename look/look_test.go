package look_test

import (
	"testing"

	"missive/api"
	"missive/look"
	"missive/mail"
)

// 24.1, of a document
func TestFor(t *testing.T) {
	read := mail.Read("Subject: Hello\nX: one\nx: two\n\nWorld \xc3\x89")
	byHand := api.Doc{Names: []string{"SUBJECT", "\xe2\x84\xaaey", "left"}, Values: []string{"hello", "value"}, Body: []string{"Great", "b\xff"}}
	for i, x := range []struct {
		key  api.Key
		doc  api.Doc
		want bool
	}{
		{api.Key{Kind: api.KeyField, Name: "SUBJECT", Text: "hello"}, read, true},
		{api.Key{Kind: api.KeyField, Name: "subject", Text: "HELLO"}, read, true},
		{api.Key{Kind: api.KeyField, Name: "subject", Text: "world"}, read, false},
		{api.Key{Kind: api.KeyField, Name: "subject", Text: ""}, read, true},
		{api.Key{Kind: api.KeyField, Name: "X", Text: "two"}, read, true},
		{api.Key{Kind: api.KeyField, Name: "y", Text: ""}, read, false},
		{api.Key{Kind: api.KeyField, Name: "subject", Text: "hello"}, byHand, true},
		{api.Key{Kind: api.KeyField, Name: "Key", Text: "value"}, byHand, true},
		{api.Key{Kind: api.KeyField, Name: "left", Text: ""}, byHand, false},
		{api.Key{Kind: api.KeyBody, Text: "world"}, read, true},
		{api.Key{Kind: api.KeyBody, Text: "WORLD"}, read, true},
		{api.Key{Kind: api.KeyBody, Text: "hello"}, read, false},
		{api.Key{Kind: api.KeyBody, Text: "great"}, byHand, false},
		{api.Key{Kind: api.KeyBody, Text: "\xff"}, byHand, false},
		{api.Key{Kind: api.KeyBody, Text: "\xff"}, api.Doc{Body: []string{"\xef\xbf\xbd"}}, true},
		{api.Key{Kind: api.KeyBody, Text: ""}, api.Doc{}, false},
		{api.Key{Kind: api.KeyText, Text: "subject: h"}, read, true},
		{api.Key{Kind: api.KeyText, Text: "d"}, read, true},
		{api.Key{Kind: api.KeyText, Text: "onetwo"}, read, false},
		{api.Key{Kind: api.KeyText, Text: "nothing"}, read, false},
	} {
		if got := look.For(x.key)(x.doc); got != x.want {
			t.Errorf("%d: %v of %v: %t", i, x.key, x.doc, got)
		}
	}
	for kind := range api.KeyCount + 2 {
		asks := kind == api.KeyField || kind == api.KeyBody || kind == api.KeyText
		if got := look.For(api.Key{Kind: kind}) != nil; got != asks {
			t.Errorf("a key of kind %d asks for a text: %t", kind, got)
		}
	}
}
