// Package lost ends what goes on step by step where the disk went away. Layers 20 to 29 share it: they all end so, wherever that is told.
package lost

import (
	"virgate/api"
	"virgate/kv"
)

// Or tells what goes on with what is told: then does, but of ErrLost end, with just that.
func Or(end func(e api.Errno), then func(r kv.Result)) func(r kv.Result) {
	return func(r kv.Result) {
		if r.Code == api.ErrLost {
			end(r.Code)
			return
		}
		then(r)
	}
}
