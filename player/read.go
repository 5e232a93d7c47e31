package player

import (
	"strconv"
	"strings"

	"grapevine/api"
)

const (
	mostDigits = 9
	mostDraws  = 50
)

// Letters of words: what each word of a line is for.
const (
	wordNode  = 'n'
	wordOther = 'o'
	wordAt    = 'a'
	wordTo    = 't'
	wordFrom  = 'f'
	wordTurns = 'u'
	wordBegin = 'b' // of a span
	wordEnd   = 'e' // of the same span
	wordVal   = 'v'
	wordText  = 'x'
	wordNum   = '#'
	wordHex   = 'h'
)

// row is a row of the table of lines: what it says, and the letters of its words.
type row struct {
	what    uint8
	letters string
}

// rows returns the table of lines, by their first words.
func rows() map[string]row {
	return map[string]row{
		"tick":    {api.StepTick, "n"},
		"unwant":  {api.StepUnsubscribe, "n"},
		"leave":   {api.StepLeave, "n"},
		"crash":   {api.StepCrash, "n"},
		"start":   {api.StepStart, "n"},
		"deliver": {api.StepDeliver, "a"},
		"drop":    {api.StepDrop, "a"},
		"double":  {api.StepDouble, "a"},
		"move":    {api.StepMove, "at"},
		"bend":    {api.StepBend, "afu"},
		"want":    {api.StepSubscribe, "nbebe"},
		"publish": {api.StepPublish, "nvvx"},
		"join":    {api.StepJoin, "no"},
		"world":   {api.TypedWorld, "#"},
		"script":  {api.TypedScript, "h"},
		"round":   {api.TypedRound, ""},
		"pool":    {api.TypedPool, ""},
		"frame":   {api.TypedFrame, "#"},
		"peer":    {api.TypedPeer, "#"},
		"log":     {api.TypedLog, ""},
		"owed":    {api.TypedOwed, ""},
		"reach":   {api.TypedReach, "#"},
	}
}

// Read returns what a line says.
func Read(line string) (api.Typed, api.Errno) {
	first, rest, more := strings.Cut(line, " ")
	r, ok := rows()[first]
	if !ok {
		return api.Typed{}, api.ErrTyped
	}
	t := &typed{rest: rest, more: more}
	t.What = r.what
	if r.what <= api.StepStart {
		t.Step.Kind = r.what
	}
	for _, letter := range r.letters {
		if !t.take(letter) {
			return api.Typed{}, api.ErrTyped
		}
	}
	if r.what == api.TypedWorld && !t.takeDraws() || t.more {
		return api.Typed{}, api.ErrTyped
	}
	return t.Typed, api.OK
}

// typed is a line of which some words are taken: what they say, the rest, and whether there is another word in it.
type typed struct {
	api.Typed
	rest string
	more bool
}

// word returns the next word: up to a space, or all of the rest.
func (t *typed) word() (string, bool) {
	if !t.more {
		return "", false
	}
	word, rest, more := strings.Cut(t.rest, " ")
	t.rest, t.more = rest, more
	return word, true
}

// take takes the next word for what its letter says.
func (t *typed) take(letter rune) bool {
	if letter == wordText {
		return t.takeText()
	}
	word, ok := t.word()
	if !ok {
		return false
	}
	switch letter {
	case wordNode:
		return natural(&t.Step.Node, word)
	case wordOther:
		return natural(&t.Step.Other, word)
	case wordAt:
		return natural(&t.Step.At, word)
	case wordTo:
		return natural(&t.Step.To, word)
	case wordFrom:
		return natural(&t.Step.From, word)
	case wordTurns:
		return natural(&t.Step.Turns, word)
	case wordBegin:
		t.Step.Filter = append(t.Step.Filter, api.Span{})
		return integer(&t.Step.Filter[len(t.Step.Filter)-1].From, word)
	case wordEnd:
		return integer(&t.Step.Filter[len(t.Step.Filter)-1].To, word)
	case wordVal:
		t.Step.Vals = append(t.Step.Vals, 0)
		return integer(&t.Step.Vals[len(t.Step.Vals)-1], word)
	case wordNum:
		t.Nums = append(t.Nums, 0)
		return natural(&t.Nums[len(t.Nums)-1], word)
	}
	return t.takeHex(word)
}

// takeText takes all of the rest, also spaces.
func (t *typed) takeText() bool {
	if !t.more || t.rest == "" {
		return false
	}
	t.Step.Data = []byte(t.rest)
	t.more = false
	return true
}

// takeDraws takes all other numbers of a world.
func (t *typed) takeDraws() bool {
	for range mostDraws {
		if t.more && !t.take(wordNum) {
			return false
		}
	}
	return true
}

// takeHex takes bytes, two digits each.
func (t *typed) takeHex(word string) bool {
	if len(word) < 2 || len(word)%2 != 0 {
		return false
	}
	for i := 0; i < len(word); i += 2 {
		high, okHigh := digit(word[i])
		low, okLow := digit(word[i+1])
		if !okHigh || !okLow {
			return false
		}
		t.Data = append(t.Data, high<<4|low)
	}
	return true
}

func digit(c byte) (byte, bool) {
	switch {
	case '0' <= c && c <= '9':
		return c - '0', true
	case 'a' <= c && c <= 'f':
		return c - 'a' + 10, true
	}
	return 0, false
}

// integer reads a number that may be below 0.
func integer[T uint8 | uint32 | int32 | int](x *T, word string) bool {
	digits, below := strings.CutPrefix(word, "-")
	if !below {
		return natural(x, word)
	}
	if digits == "0" || !natural(x, digits) {
		return false
	}
	*x = -*x
	return true
}

// natural reads a number that x has room for.
func natural[T uint8 | uint32 | int32 | int](x *T, word string) bool {
	if len(word) < 1 || len(word) > mostDigits || word[0] == '0' && len(word) > 1 {
		return false
	}
	for _, c := range []byte(word) {
		if c < '0' || c > '9' {
			return false
		}
	}
	n, err := strconv.Atoi(word)
	*x = T(n)
	return err == nil && int(*x) == n
}
