package config

import "alerts/api"

// What the root has where it does not tell.
const (
	rootWait   = 30
	rootEvery  = 300
	rootRepeat = 14400
)

// treeFault answers the line of the first route that may not stand where it
// stands, 0 if there is none.
func treeFault(routes []Route) int {
	if len(routes) == 0 {
		return LineOf(0)
	}
	depthAhead := 0
	for i, r := range routes {
		ok := mayFollow(r, depthAhead)
		if i == 0 {
			ok = mayBeRoot(r)
		}
		if !ok || i >= api.MaxNodes {
			return LineOf(i)
		}
		depthAhead = r.Depth
	}
	return 0
}

func mayBeRoot(r Route) bool {
	return r.Depth == 0 && len(r.If) == 0 && !r.Continue && r.Receiver != Parents
}

func mayFollow(r Route, depthAhead int) bool {
	return r.Depth >= 1 && r.Depth <= api.MaxDepth && r.Depth <= depthAhead+1
}

// nameFault answers the line of the first receiver that stands twice or is not
// declared, 0 if there is none.
func nameFault(c Config) int {
	for i, name := range c.Receivers {
		if has(c.Receivers[:i], name) {
			return 1
		}
	}
	for i, r := range c.Routes {
		if r.Receiver != Parents && !has(c.Receivers, r.Receiver) {
			return LineOf(i)
		}
	}
	return 0
}

// ParentOf answers the number of the route's parent, -1 if there is none.
func ParentOf(routes []Route, route int) int {
	if route < 0 || route >= len(routes) {
		return -1
	}
	for i := route - 1; i >= 0; i-- {
		if routes[i].Depth == routes[route].Depth-1 {
			return i
		}
	}
	return -1
}

// Hits answers of each route, in their order, what it tells and inherits.
func Hits(routes []Route) []api.Hit {
	hits := []api.Hit{}
	for i, r := range routes {
		above := api.Hit{Wait: rootWait, Every: rootEvery, Repeat: rootRepeat}
		parent := ParentOf(routes, i)
		if parent >= 0 && parent < len(hits) {
			above = hits[parent]
		}
		hits = append(hits, hitBelow(above, r))
	}
	return hits
}

// hitBelow makes a list of labels of its own for every hit, without spare
// room, so that whoever gets one may write into it.
func hitBelow(above api.Hit, r Route) api.Hit {
	hit := api.Hit{Receiver: r.Receiver}
	if r.Receiver == Parents {
		hit.Receiver = above.Receiver
	}
	by := above.By
	if r.TellsBy {
		by = r.By
	}
	hit.By = make([]string, len(by))
	copy(hit.By, by)
	hit.Wait = toldOr(r.Wait, above.Wait)
	hit.Every = toldOr(r.Every, above.Every)
	hit.Repeat = toldOr(r.Repeat, above.Repeat)
	return hit
}

func toldOr(time int, inherited int) int {
	if time == NotTold {
		return inherited
	}
	return time
}
