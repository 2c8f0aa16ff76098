package lost_test

import (
	"slices"
	"testing"

	"virgate/api"
	"virgate/kv"
	"virgate/lost"
)

// told tells a Result of that Code, of which no other part is its zero value.
func told(e api.Errno) kv.Result {
	return kv.Result{Code: e, Rev: 7, Val: "x", Items: []kv.Item{{Key: "a", Val: "b", Rev: 5}}}
}

func TestOr(t *testing.T) {
	for e := api.Errno(-1); e < 20; e++ {
		var ends []api.Errno
		var on []kv.Result
		f := lost.Or(func(e api.Errno) { ends = append(ends, e) }, func(r kv.Result) { on = append(on, r) })
		if len(ends)+len(on) != 0 {
			t.Errorf("it ended with %v, went on with %v, ahead of what is told", ends, on)
		}
		f(told(e))
		if e == api.ErrLost {
			if !slices.Equal(ends, []api.Errno{api.ErrLost}) || len(on) != 0 {
				t.Errorf("lost: ended with %v, went on with %v", ends, on)
			}
			continue
		}
		r := told(e)
		if len(ends) != 0 || len(on) != 1 || on[0].Code != e || on[0].Rev != r.Rev || on[0].Val != r.Val || !slices.Equal(on[0].Items, r.Items) {
			t.Errorf("told %d: ended with %v, went on with %v", e, ends, on)
		}
	}
}
