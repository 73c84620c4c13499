package mail_test

import (
	"slices"
	"testing"

	"yieldshape/api"
	"yieldshape/mail"
)

// take bears a word of its own, which means nothing.
var take = api.MailOp{V: 9999}

var (
	put  = api.MailGot{OK: true}
	no   = api.MailGot{}
	none []int64
)

// lastWord is a word that no other put bears.
const lastWord = 2020

func send(v int64) api.MailOp { return api.MailOp{Put: true, V: v} }

// sends are n of them, of from, from + 1 and so on.
func sends(from, n int) []api.MailOp {
	var l []api.MailOp
	for _, v := range row(from, n) {
		l = append(l, send(v))
	}
	return l
}

func takes(n int) []api.MailOp { return slices.Repeat([]api.MailOp{take}, n) }

func puts(n int) []api.MailGot { return slices.Repeat([]api.MailGot{put}, n) }

func noes(n int) []api.MailGot { return slices.Repeat([]api.MailGot{no}, n) }

// took is what comes of takings that answer these words.
func took(words ...int64) []api.MailGot {
	var l []api.MailGot
	for _, v := range words {
		l = append(l, api.MailGot{OK: true, V: v})
	}
	return l
}

// row are n words: from, from + 1 and so on.
func row(from, n int) []int64 {
	var words []int64
	for i := range n {
		words = append(words, int64(from+i))
	}
	return words
}

func wantPlay(t *testing.T, places int, l []api.MailOp, got []api.MailGot, left []int64) {
	t.Helper()
	g, w, err := mail.Play(places, l)
	if err != api.OK || !slices.Equal(g, got) || !slices.Equal(w, left) {
		t.Errorf("Play(%d, %v) = %v, %v, %v; want %v, %v", places, l, g, w, err, got, left)
	}
}

func wantRange(t *testing.T, places int, l []api.MailOp) {
	t.Helper()
	g, w, err := mail.Play(places, l)
	if err != api.ErrRange || len(g) != 0 || len(w) != 0 {
		t.Errorf("Play(%d, %v) = %v, %v, %v; want nothing beside %v", places, l, g, w, err, api.ErrRange)
	}
}
