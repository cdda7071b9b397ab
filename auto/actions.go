package auto

import "tether/api"

// codes are those of the packets that actions send; 0, where an action sends none.
var codes = [...]int{
	api.AScr: api.CConfReq,
	api.ASca: api.CConfAck,
	api.AScn: api.CConfNak,
	api.AStr: api.CTermReq,
	api.ASta: api.CTermAck,
	api.AScj: api.CCodeRej,
	api.ASer: api.CEchoRep,
}

// Sends answers the codes of the packets that actions send, in order.
func Sends(actions ...int) []int {
	var out []int
	for _, action := range actions {
		if action >= 0 && action < len(codes) && codes[action] != 0 {
			out = append(out, codes[action])
		}
	}
	return out
}

// Begins tells whether the restart timer begins anew with actions.
func Begins(actions ...int) bool {
	for _, action := range actions {
		switch action {
		case api.AScr, api.AStr, api.AZrc:
			return true
		}
	}
	return false
}
