package json

import (
	"strconv"

	"hustings/api"
	"hustings/quote"
)

// writer is a canonical text under way.
type writer struct{ out []byte }

// Canon: a value's canonical text; ErrArg, ErrDeep, ErrLong.
func Canon(v api.Value) (s string, e api.Errno) {
	defer func() {
		if given := recover(); given != nil {
			s, e = "", given.(fault).err
		}
	}()
	w := &writer{}
	w.value(v, 0)
	return string(w.out), api.OK
}

func (w *writer) put(s string) {
	w.out = append(w.out, s...)
	if len(w.out) > api.MaxBytes {
		giveUp(api.ErrLong)
	}
}

// value writes a value that stands within so many lists and maps.
func (w *writer) value(v api.Value, within int) {
	if !shaped(v) {
		giveUp(api.ErrArg)
	}
	switch v.Kind {
	case api.KindNull:
		w.put("null")
	case api.KindBool:
		w.put(strconv.FormatBool(v.Is))
	case api.KindNum:
		w.put(strconv.Itoa(v.N))
	case api.KindText:
		w.text(v.S)
	case api.KindList:
		w.list(v.List, within)
	case api.KindMap:
		w.members(v.Map, within)
	}
}

// shaped: whether a value, its parts aside, has just what its kind has.
func shaped(v api.Value) bool {
	own := v.Kind
	bare := (own == api.KindBool || !v.Is) &&
		(own == api.KindNum || v.N == 0) &&
		(own == api.KindText || v.S == "") &&
		(own == api.KindList || len(v.List) == 0) &&
		(own == api.KindMap || len(v.Map) == 0)
	return bare && own >= api.KindNull && own <= api.KindMap && v.N >= -api.MaxNum && v.N <= api.MaxNum
}

func (w *writer) text(s string) {
	if len(s) > api.MaxBytes {
		giveUp(api.ErrLong)
	}
	quoted, ok := quote.Put(s)
	if !ok {
		giveUp(api.ErrArg)
	}
	w.put(quoted)
}

func (w *writer) list(vals []api.Value, within int) {
	w.open("[", within)
	for i, v := range vals {
		if i > 0 {
			w.put(",")
		}
		w.value(v, within+1)
	}
	w.put("]")
}

func (w *writer) open(sign string, within int) {
	if within >= api.MaxNest {
		giveUp(api.ErrDeep)
	}
	w.put(sign)
}

func (w *writer) members(list []api.Member, within int) {
	w.open("{", within)
	for i, m := range list {
		if i > 0 {
			w.put(",")
			if m.Key <= list[i-1].Key {
				giveUp(api.ErrArg)
			}
		}
		w.text(m.Key)
		w.put(":")
		w.value(m.Val, within+1)
	}
	w.put("}")
}
