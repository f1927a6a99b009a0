package plot

import (
	"furlong/api"
	"furlong/deed"
	"furlong/desc"
	"furlong/session"
)

// outcome is what comes of an order.
type outcome struct {
	plot   api.Plot
	reply  api.Reply
	effect api.Effect
}

// failed is what comes of an order that p cannot do, for the error e.
func failed(p api.Plot, e api.Errno) outcome {
	return outcome{plot: p, reply: bad(e)}
}

// note notes c's reply as what the client was answered to what it asked with
// this seq. With an error, c is not what comes of it.
func (c *outcome) note(client, seq int64) api.Errno {
	s := api.Session{Client: client, Seq: seq, Reply: c.reply}
	var e api.Errno
	c.plot.Sessions, e = session.Note(c.plot.Sessions, s)
	if e == api.OK && c.effect.Split {
		// The client may ask again in either part.
		c.effect.Right.Sessions, e = session.Note(c.effect.Right.Sessions, s)
	}
	return e
}

// do is what comes of o, which may be, and is for p.
func do(p api.Plot, o api.Order) outcome {
	var r api.Reply
	switch o.Kind {
	case api.OrGet:
		r.Value, r.Has = deed.Get(p, o.Key)
	case api.OrDel:
		_, r.Has = deed.Get(p, o.Key)
		p = deed.Set(p, api.Change{Key: o.Key, Gone: true})
	case api.OrSwap:
		value, there := deed.Get(p, o.Key)
		// What is not there has the value "", and so has Old, then.
		if there != o.Has || value != o.Old {
			r.Value = value
			break
		}
		r.Has = true
		fallthrough
	case api.OrPut:
		p = deed.Set(p, api.Change{Key: o.Key, Value: o.Value})
	case api.OrScan:
		r = scan(p, o)
	case api.OrLook:
		r = look(p)
	case api.OrAlloc:
		return alloc(p)
	case api.OrMeta:
		return meta(p, o)
	case api.OrSplit:
		return split(p, o)
	case api.OrFreeze:
		return freeze(p)
	case api.OrMerge:
		return merge(p, o.Value)
	case api.OrAdd:
		d, e := desc.Add(p.Desc, o.Node)
		return became(p, d, e)
	case api.OrRemove:
		d, e := desc.Remove(p.Desc, o.Id)
		return became(p, d, e)
	}
	return outcome{plot: p, reply: r}
}
