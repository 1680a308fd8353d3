// Package look has whether a document has a key's text, as chapter 24 says it of mails: for whoever has the document already, and is not to read the mail once more.
package look

import (
	"missive/api"
	"missive/mail"
	"missive/runes"
)

// For tells a function that holds what is looked for, folded, so that this is not done again for each document; nil, if the key is of a kind that asks for no text.
func For(k api.Key) func(api.Doc) bool {
	var has func(d api.Doc, what string) bool
	switch k.Kind {
	case api.KeyField:
		has = func(d api.Doc, what string) bool { return mail.InField(d, k.Name, what) }
	case api.KeyBody:
		has = mail.InBody
	case api.KeyText:
		has = mail.InText
	default:
		return nil
	}
	what := mail.What(runes.Letters(k.Text)...)
	return func(d api.Doc) bool { return has(d, what) }
}
