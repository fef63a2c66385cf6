package words

import (
	"math"

	"depot/api"
)

// noReply is the word behind a line's arguments that asks for no answer.
const noReply = "noreply"

// noVerb is the verb of a word that is none.
const noVerb = 0

// verbs is each verb's word, at the verb's number.
var verbs = [...]string{
	api.VGet:       "get",
	api.VGets:      "gets",
	api.VSet:       "set",
	api.VAdd:       "add",
	api.VReplace:   "replace",
	api.VAppend:    "append",
	api.VPrepend:   "prepend",
	api.VCas:       "cas",
	api.VDelete:    "delete",
	api.VIncr:      "incr",
	api.VDecr:      "decr",
	api.VTouch:     "touch",
	api.VFlush:     "flush_all",
	api.VVersion:   "version",
	api.VVerbosity: "verbosity",
	api.VStats:     "stats",
	api.VQuit:      "quit",
}

// kind is what an argument must be.
type kind int

const (
	aKey kind = iota
	aFlags
	anExp
	aBytes
	aCas
	aDelta
	aLevel
	aNought
)

// form is what stands behind a word.
type form struct {
	args        []kind // what each argument is; those behind are as the last
	least, most int    // how many there are
	hush        bool   // may noreply stand behind them?
}

// just is the form of a word with these arguments, no more and no fewer.
func just(args ...kind) form {
	return form{args: args, least: len(args), most: len(args), hush: true}
}

// Line tells what a line asks.
func Line(s string) (api.Request, api.Errno) {
	parts := Split(s)
	if len(parts) == 0 {
		return api.Request{}, api.ErrForm
	}
	verb := verbOf(parts[0])
	if verb == noVerb {
		return api.Request{}, api.ErrForm
	}
	f := formOf(verb)
	args, hushed := f.hushed(parts[1:])
	if len(args) < f.least || len(args) > f.most {
		return api.Request{}, api.ErrForm
	}
	r, ok := f.read(args)
	if !ok {
		return api.Request{}, api.ErrArg
	}
	r.Verb, r.NoReply = verb, hushed
	return r, api.OK
}

// verbOf tells the verb that a word, which isn't empty, names.
func verbOf(word string) int {
	for verb, name := range verbs {
		if name == word {
			return verb
		}
	}
	return noVerb
}

// formOf tells what stands behind that verb's word.
func formOf(verb int) form {
	switch verb {
	case api.VGet, api.VGets:
		return form{args: []kind{aKey}, least: 1, most: api.MaxMulti}
	case api.VSet, api.VAdd, api.VReplace, api.VAppend, api.VPrepend:
		return just(aKey, aFlags, anExp, aBytes)
	case api.VCas:
		return just(aKey, aFlags, anExp, aBytes, aCas)
	case api.VDelete:
		return just(aKey)
	case api.VIncr, api.VDecr:
		return just(aKey, aDelta)
	case api.VTouch:
		return just(aKey, anExp)
	case api.VFlush:
		return form{args: []kind{aNought}, most: 1, hush: true}
	case api.VVerbosity:
		return just(aLevel)
	}
	// VVersion, VStats and VQuit stand alone.
	return form{}
}

// hushed tells the arguments without a noreply behind them, and whether there was one.
// Where it is needed for the least number of them, it is an argument like others.
func (f form) hushed(args []string) ([]string, bool) {
	last := len(args) - 1
	if f.hush && len(args) > f.least && args[last] == noReply {
		return args[:last], true
	}
	return args, false
}

// read tells the request that the arguments make; false, if one is not such.
func (f form) read(args []string) (api.Request, bool) {
	var r api.Request
arguments:
	for i, s := range args {
		ok := false
		switch f.args[min(i, len(f.args)-1)] {
		case aKey:
			r.Keys, ok = append(r.Keys, s), Key(s)
		case aFlags:
			r.Flags, ok = whole(s, math.MaxUint32)
		case anExp:
			r.Exp, ok = signed(s, api.MaxTime)
		case aBytes:
			r.Bytes, ok = whole(s, math.MaxInt32)
		case aCas:
			r.Cas, ok = whole(s, api.MaxRid)
		case aDelta:
			r.Delta, ok = Number(s, math.MaxUint64)
		case aLevel:
			_, ok = Number(s, math.MaxUint32)
		case aNought:
			ok = s == "0"
		}
		if ok {
			continue arguments
		}
		return api.Request{}, false
	}
	return r, true
}
