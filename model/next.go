package model

import (
	"math"
	"strconv"
	"strings"

	"depot/api"
	"depot/when"
	"depot/words"
)

// What is said where an entry can't become what is asked.
const (
	tooLarge = "object too large for cache"
	noNumber = "cannot increment or decrement non-numeric value"
)

// Next tells what r comes to for e's key: the answer; x, if an entry is kept then; whether
// it is dropped. There says whether e is an entry that lives; if not, its key alone counts.
func Next(r api.Request, e api.Entry, there bool, now, version int) (a api.Answer, x api.Entry, keep, drop bool) {
	deadline := when.Deadline(r.Exp, now)
	fresh := api.Entry{Key: e.Key, Flags: r.Flags, Deadline: deadline, Value: r.Data, Cas: version}
	switch r.Verb {
	case api.VSet:
		return kept(api.Answer{Kind: api.AStored}, fresh)
	case api.VAdd:
		return storedIf(!there, fresh)
	case api.VReplace:
		return storedIf(there, fresh)
	case api.VAppend:
		return joined(e, there, e.Value, r.Data, version)
	case api.VPrepend:
		return joined(e, there, r.Data, e.Value, version)
	case api.VCas:
		return compared(r.Cas, e, there, fresh)
	case api.VDelete:
		return deleted(there)
	case api.VTouch:
		return touched(e, there, deadline)
	case api.VIncr, api.VDecr:
		return counted(r, e, there, version)
	}
	return told(api.Answer{})
}

// told is an answer beside which nothing is kept or dropped.
func told(a api.Answer) (api.Answer, api.Entry, bool, bool) {
	return a, api.Entry{}, false, false
}

// missing is told where there is no entry that could be changed.
func missing() (api.Answer, api.Entry, bool, bool) {
	return told(api.Answer{Kind: api.ANotFound})
}

// kept is an answer beside which x is kept.
func kept(a api.Answer, x api.Entry) (api.Answer, api.Entry, bool, bool) {
	// They may be pieces of far longer texts that were handed in, which would stay in memory with them.
	x.Key, x.Value = strings.Clone(x.Key), strings.Clone(x.Value)
	return a, x, true, false
}

// storedIf keeps x, if it may.
func storedIf(may bool, x api.Entry) (api.Answer, api.Entry, bool, bool) {
	if !may {
		return told(api.Answer{Kind: api.ANotStored})
	}
	return kept(api.Answer{Kind: api.AStored}, x)
}

// joined keeps e with the two texts, one of them its own, as its value.
func joined(e api.Entry, there bool, first, second string, version int) (api.Answer, api.Entry, bool, bool) {
	if !there {
		return told(api.Answer{Kind: api.ANotStored})
	}
	if len(first)+len(second) > api.MaxValue {
		return told(api.Answer{Kind: api.AServer, Text: tooLarge})
	}
	e.Value, e.Cas = first+second, version
	return kept(api.Answer{Kind: api.AStored}, e)
}

// compared keeps x in e's place, if e is the one of that cas.
func compared(cas int, e api.Entry, there bool, x api.Entry) (api.Answer, api.Entry, bool, bool) {
	if !there {
		return missing()
	}
	if e.Cas != cas {
		return told(api.Answer{Kind: api.AExists})
	}
	return kept(api.Answer{Kind: api.AStored}, x)
}

// deleted drops the entry, if there is one.
func deleted(there bool) (api.Answer, api.Entry, bool, bool) {
	if !there {
		return missing()
	}
	return api.Answer{Kind: api.ADeleted}, api.Entry{}, false, true
}

// touched keeps e with another deadline.
func touched(e api.Entry, there bool, deadline int) (api.Answer, api.Entry, bool, bool) {
	if !there {
		return missing()
	}
	e.Deadline = deadline
	return kept(api.Answer{Kind: api.ATouched}, e)
}

// counted keeps e with its number raised or lowered by r's Delta.
func counted(r api.Request, e api.Entry, there bool, version int) (api.Answer, api.Entry, bool, bool) {
	if !there {
		return missing()
	}
	n, ok := words.Number(e.Value, math.MaxUint64)
	if !ok {
		return told(api.Answer{Kind: api.AClient, Text: noNumber})
	}
	if r.Verb == api.VIncr {
		n += r.Delta
	} else {
		n -= min(n, r.Delta)
	}
	e.Value, e.Cas = strconv.FormatUint(n, 10), version
	return kept(api.Answer{Kind: api.ANumber, Num: n}, e)
}
