package replica

import (
	"furlong/api"
	"furlong/member"
	"furlong/order"
	"furlong/plot"
	"furlong/roll"
)

// Refuses is what a change of members is answered that is not proposed, since it
// would come to nothing, and true; false, if o is none.
func Refuses(r api.Replica, o api.Order) (api.Reply, bool) {
	leads := !Blank(r) && r.Raft.Role == api.RoleLeader
	if !leads || order.Check(o) != api.OK || !isChange(o.Kind) || !isUpToDate(r) || member.May(r.Plot, o) {
		return api.Reply{}, false
	}
	_, reply, _ := plot.Apply(r.Plot, o)
	return reply, true
}

// mayPropose is whether r may take o into its log, if it leads.
func mayPropose(r api.Replica, o api.Order) bool {
	if Blank(r) || order.Check(o) != api.OK || o.Kind == api.OrNone {
		return false
	}
	// Members have a say from the moment on that they are in the log, so that they
	// must not come there unless they come to something, and one at a time.
	return !isChange(o.Kind) || isUpToDate(r) && member.May(r.Plot, o)
}

// isChange is whether an order of this kind is a change of members.
func isChange(kind int) bool {
	return kind == api.OrAdd || kind == api.OrRemove
}

// isUpToDate is whether r has applied all of its log.
func isUpToDate(r api.Replica) bool {
	last, _ := roll.Last(r.Raft.Roll)
	return r.Applied == last
}
